"""Makes terms of their parts."""


def can_be_assigned(term):
    """Tells whether a term may stand before `=`."""
    return term[0] in ("index", "field") or (term[0] == "name" and term[2] != "this")


def assignment(target, value):
    """Returns the term that assigns the value of a term to what another one names."""
    kind, offset, *rest = target
    if kind == "name":
        return ("assign", offset, *rest, value)
    if kind == "index":
        return ("set_index", offset, *rest, value)
    return ("set_field", offset, *rest, value)


def joined(offset, operator, left, right):
    """Returns the term of an operator between two operands."""
    if operator == "and":
        return ("both", left, right)
    if operator == "or":
        return ("either", left, right)
    return ("binary", offset, operator, left, right)
