"""The names in scope at each place of a program, and its functions."""

from livequill.text.trees import parts_of


class Function:
    """A function of a program: what is told of it, and its body."""

    def __init__(self, number, title, offset, params, around, body):
        self.number = number
        self.title = title
        self.offset = offset
        self.params = params
        self.around = around
        self.body = body


def functions_of(program):
    """Returns the list of the functions of a program in the order of their numbers."""
    return [Function(0, "", 0, (), (), program), *functions_in(program, ())]


def functions_in(term, around):
    """Returns the list of the functions in a term with these names in scope around it."""
    found = []
    collect_functions(term, around, "", found)
    return found


def collect_functions(term, scope, title, found):
    """Adds the functions in a term to those that were found; the title is for the term itself."""
    if term[0] == "function":
        _, offset, number, params, body = term
        found.append(Function(number, title, offset, params, scope, body))
    for part, inner, name in placed_parts(term, scope):
        collect_functions(part, inner, name, found)


def scope_after(item, scope):
    """Returns the names in scope behind an item of a block; scope holds those before it."""
    if item[0] == "let":
        return (item[2], *scope)
    if item[0] == "group":
        names = [member[1] for member in item[1]]
        return (*names, *scope)
    return scope


def placed_parts(term, scope):
    """Returns a list with a tuple for each part of a term, which has these names in scope around it.

    The tuple holds the part, the names in scope around the part, and the title
    that the part has if it is a function.
    """
    if term[0] in PLACES:
        action = PLACES[term[0]]
        return action(term, scope)
    return [(part, scope, "") for part in parts_of(term)]


def place_items(block, scope):
    parts = []
    for item in block[1]:
        parts.append((item, scope, ""))
        scope = scope_after(item, scope)
    return parts


def place_value(term, scope):
    """Places the value of a `let` or of an assignment, which gives its name to a function."""
    return [(term[3], scope, term[2])]


def place_members(group, scope):
    inner = scope_after(group, scope)
    return [(term, inner, name) for _, name, term in group[1]]


def place_methods(term, scope):
    """Places the parent and the methods of a class."""
    _, _, name, parent, methods = term
    parts = [] if parent is None else [(parent, scope, "")]
    inner = ("super", *scope)
    for method, function in methods:
        parts.append((function, inner, f"{name}.{method}"))
    return parts


def place_body(function, scope):
    return [(function[4], (*function[3], *scope), "")]


def place_loop(term, scope):
    """Places what a `for` goes through, and its body."""
    _, _, _, name, whole, body = term
    return [(whole, scope, ""), (body, (name, "", *scope), "")]


def place_handler(term, scope):
    """Places the two blocks of a `try`."""
    _, _, body, _, name, handler = term
    return [(body, scope, ""), (handler, (name, *scope), "")]


PLACES = {
    "block": place_items, "let": place_value, "assign": place_value, "group": place_members,
    "class": place_methods, "function": place_body, "for": place_loop, "try": place_handler,
}
