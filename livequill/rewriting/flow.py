"""Conditions that are always or never true, and statements that never end."""

from livequill.text.trees import parts_of

LEAVING = ("break", "continue", "return", "throw")


def fixed(term):
    """Returns whether a condition that is always or never true is true, otherwise None."""
    if term[0] in ("int", "text"):
        return True
    if term[0] == "null":
        return False
    if term[0] == "bool":
        return term[1]
    if term[0] == "unary" and term[2] == "not":
        inner = fixed(term[3])
        return None if inner is None else not inner
    if term[0] in ("both", "either"):
        return fixed_choice(term)
    return None


def fixed_choice(term):
    """Returns of `and` and `or` what `fixed` does."""
    word, first, second = term
    decided = fixed(first)
    if decided is None or decided == (word == "either"):
        return decided
    return fixed(second)


def never_ends(term):
    """Tells whether a statement never ends normally."""
    if term[0] == "block":
        return any([never_ends(item) for item in term[1]])
    if term[0] == "if":
        return all([branch is not None and never_ends(branch) for branch in possible_branches(term)])
    if term[0] == "while":
        return fixed(term[2]) is True and not has_break(term[3])
    if term[0] == "try":
        return never_ends(term[2]) and never_ends(term[5])
    return term[0] in LEAVING


def possible_branches(term):
    """Returns the list of those branches of an `if` that may be executed; None is a branch that is not there."""
    _, _, condition, chosen, other = term
    value = fixed(condition)
    if value is None:
        return [chosen, other]
    return [chosen] if value else [other]


def has_break(term):
    """Tells whether a `break` within the body of a loop belongs to this loop."""
    if term[0] in ("block", "if", "try"):
        return any([has_break(part) for part in parts_of(term)])
    return term[0] == "break"


def has_code(item):
    """Tells whether an item of a block has code."""
    return item[0] != "block" or any([has_code(inner) for inner in item[1]])
