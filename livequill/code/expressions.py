"""Translates expressions. Each function takes the coder and a term."""

from livequill.code.instructions import BINARY_WORDS, UNARY_WORDS
from livequill.values.refs import value_named


def code_expression(coder, term):
    """Adds the code of an expression."""
    action = EXPRESSIONS[term[0]]
    action(coder, term)


def code_all(coder, terms):
    """Adds the code of several expressions in their order."""
    for term in terms:
        code_expression(coder, term)


def code_load(coder, name):
    """Adds the load of a name."""
    if name in coder.scope:
        coder.emit(("load", coder.scope.index(name)))
    else:
        coder.emit(("const", value_named(name)))


def code_literal(coder, term):
    coder.emit(("const", None if term[0] == "null" else term[1]))


def code_name(coder, term):
    code_load(coder, term[2])


def code_assign(coder, term):
    code_expression(coder, term[3])
    coder.emit(("save", coder.scope.index(term[2])))


def code_unary(coder, term):
    code_expression(coder, term[3])
    coder.emit((UNARY_WORDS[term[2]], coder.told(term[1])))


def code_binary(coder, term):
    code_all(coder, term[3:])
    coder.emit((BINARY_WORDS[term[2]], coder.told(term[1])))


def code_choice(coder, term):
    """Adds the code of `and` or `or`."""
    code_expression(coder, term[1])
    start = coder.emit((term[0], None))
    code_expression(coder, term[2])
    coder.lead_here(start)


def code_list(coder, term):
    code_all(coder, term[1])
    coder.emit(("list", len(term[1])))


def code_map(coder, term):
    code_all(coder, [part for pair in term[2] for part in pair])
    coder.emit(("map", 2 * len(term[2]), coder.told(term[1])))


def code_index(coder, term):
    code_all(coder, term[2:])
    coder.emit(("item", coder.told(term[1])))


def code_set_index(coder, term):
    code_all(coder, term[2:])
    coder.emit(("set_item", coder.told(term[1])))


def code_field(coder, term):
    code_expression(coder, term[2])
    coder.emit(("field", term[3], coder.told(term[1])))


def code_set_field(coder, term):
    code_all(coder, (term[2], term[4]))
    coder.emit(("set_field", term[3], coder.told(term[1])))


def code_call(coder, term):
    code_all(coder, (term[2], *term[3]))
    coder.emit(("call", len(term[3]), coder.told(term[1])))


def code_invoke(coder, term):
    code_all(coder, (term[2], *term[4]))
    coder.emit(("invoke", term[3], len(term[4]), coder.told(term[1])))


def code_super(coder, term):
    code_load(coder, "this")
    code_all(coder, term[3])
    code_load(coder, "super")
    coder.emit(("super", term[2], len(term[3]), coder.told(term[1])))


def code_function(coder, term):
    coder.emit(("closure", term[2], len(term[3])))


def code_class(coder, term):
    _, offset, name, parent, methods = term
    code_expression(coder, ("null",) if parent is None else parent)
    coder.bring(("declare",), "super")
    coder.emit(("class", name, coder.told(offset)))
    for title, function in methods:
        code_expression(coder, function)
        coder.emit(("method", title))
    coder.drop(1)


EXPRESSIONS = {
    "null": code_literal, "bool": code_literal, "int": code_literal, "text": code_literal, "name": code_name,
    "assign": code_assign, "set_index": code_set_index, "set_field": code_set_field,
    "unary": code_unary, "binary": code_binary, "both": code_choice, "either": code_choice,
    "list": code_list, "map": code_map, "index": code_index, "field": code_field,
    "call": code_call, "invoke": code_invoke, "super": code_super,
    "function": code_function, "class": code_class,
}
