"""The variables of a program: which of them are used, and what they hide."""

from livequill.names.language import is_of_language
from livequill.text.trees import parts_of


class Declared:
    """A variable: where a note on it stands, what it hides, and whether it is used."""

    def __init__(self, name, offset, purpose, around):
        self.name = name
        self.offset = offset
        # What it is for: to be "read", or to be "used".
        self.purpose = purpose
        self.hides_variable = name in [variable.name for variable in around]
        self.hides_language = is_of_language(name) and not self.hides_variable
        self.is_used = False


def variables_in(tree):
    """Returns the list of the variables of a program; the parameters of each function in their order."""
    found = []
    collect(tree, (), found)
    return found


def collect(term, scope, found):
    """Adds the variables that a term makes, and marks those that it uses; scope holds those around it."""
    if term[0] in MAKERS:
        action = MAKERS[term[0]]
        action(term, scope, found)
    else:
        collect_parts(term, scope, found)


def collect_parts(term, scope, found):
    """Looks at the terms that a term consists of, in which nothing is in scope but what is around it."""
    for part in parts_of(term):
        collect(part, scope, found)


def declare(names, purpose, scope, found):
    """Adds variables that have nothing but this scope around them, and returns the scope that they are in.

    The names are pairs of an offset and a name, the innermost one first.
    """
    made = [Declared(name, offset, purpose, scope) for offset, name in names]
    found.extend(made)
    return (*made, *scope)


def mark_used(term, scope, found):
    """Marks the variable that a name means."""
    meant = [variable for variable in scope if variable.name == term[2]]
    if meant:
        variable = meant[0]
        variable.is_used = True


def collect_block(block, scope, found):
    """Looks at the items of a block, each with what those ahead of it bring into scope."""
    for item in block[1]:
        if item[0] == "group":
            members = [(offset, name) for offset, name, _ in item[1]]
            scope = declare(members, "used", scope, found)
        collect(item, scope, found)
        if item[0] == "let":
            scope = declare([(item[1], item[2])], "read", scope, found)


def collect_function(function, scope, found):
    """Looks at a function. Nothing is told of `this`, so it need not be there."""
    _, offset, _, params, body = function
    names = [(offset, name) for name in params if name != "this"]
    collect(body, declare(names, "used", scope, found), found)


def collect_loop(loop, scope, found):
    """Looks at a `for`."""
    _, _, offset, name, whole, body = loop
    collect(whole, scope, found)
    collect(body, declare([(offset, name)], "read", scope, found), found)


def collect_try(term, scope, found):
    """Looks at a `try`."""
    _, _, body, offset, name, handler = term
    collect(body, scope, found)
    collect(handler, declare([(offset, name)], "read", scope, found), found)


MAKERS = {
    "name": mark_used, "block": collect_block, "function": collect_function, "for": collect_loop, "try": collect_try,
}
