"""Makes trees simpler."""

from livequill.errors import ScriptError
from livequill.rewriting.flow import LEAVING
from livequill.text.trees import with_parts
from livequill.values.kinds import is_true
from livequill.values.operators import binary, unary
from livequill.values.store import Store

# What becomes nothing becomes a block without items. Those are left out where they are not needed.
NOTHING = ("block", ())


def simpler(tree):
    """Returns the simpler tree of a block, or of a term in it."""
    term = with_parts(tree, simpler)
    if term[0] not in RULES:
        return term
    rule = RULES[term[0]]
    return rule(term)


# Constants


def is_constant(term):
    """Tells whether a term is a constant."""
    if term[0] == "unary":
        return term[2] == "-" and term[3][0] == "int"
    return term[0] in ("null", "bool", "int", "text")


def value_of(term):
    """Returns the value of a constant."""
    if term[0] == "null":
        return None
    return -term[3][1] if term[0] == "unary" else term[1]


def constant_of(value, offset):
    """Returns the constant of the result of an operator, which stands at an offset."""
    if isinstance(value, bool):
        return ("bool", value)
    if isinstance(value, str):
        return ("text", value)
    return ("int", value) if value >= 0 else ("unary", offset, "-", ("int", -value))


def is_constant_true(term):
    """Tells whether a term is a constant that is true."""
    return is_constant(term) and is_true(value_of(term))


def is_constant_false(term):
    """Tells whether a term is a constant that is not true."""
    return is_constant(term) and not is_true(value_of(term))


# The rules. Each takes a term in which all terms are simpler already.


def simpler_operator(term):
    if not all([is_constant(operand) for operand in term[3:]]):
        return term
    try:
        result = result_of(term)
    except ScriptError:
        return term
    return constant_of(result, term[1])


def result_of(term):
    """Returns the result of an operator with constants as operands."""
    store = Store([])
    values = [value_of(operand) for operand in term[3:]]
    if term[0] == "unary":
        return unary(store, term[2], values[0])
    return binary(store, term[2], values[0], values[1])


def simpler_choice(term):
    word, first, second = term
    if not is_constant(first):
        return term
    return second if is_true(value_of(first)) == (word == "both") else first


def simpler_expression_statement(term):
    return NOTHING if is_constant(term[1]) or term[1][0] == "name" else term


def simpler_if(term):
    word, offset, condition, chosen, other = term
    if is_constant_true(condition):
        return chosen
    if is_constant_false(condition):
        return NOTHING if other is None else other
    return (word, offset, condition, chosen, None if other == NOTHING else other)


def simpler_while(term):
    return NOTHING if is_constant_false(term[2]) else term


def simpler_block(term):
    items = []
    for item in term[1]:
        if item != NOTHING:
            items.append(item)
        if not goes_on(item):
            break
    return ("block", tuple(items))


def goes_on(term):
    """Tells whether what follows a statement may be executed, as far as making simpler looks at it."""
    if term[0] == "block":
        return all([goes_on(item) for item in term[1]])
    if term[0] == "if":
        return term[4] is None or goes_on(term[3]) or goes_on(term[4])
    if term[0] == "try":
        return goes_on(term[2]) or goes_on(term[5])
    return term[0] not in LEAVING


def simpler_try(term):
    return NOTHING if term[2] == NOTHING else term


RULES = {
    "unary": simpler_operator, "binary": simpler_operator, "both": simpler_choice, "either": simpler_choice,
    "do": simpler_expression_statement, "if": simpler_if, "while": simpler_while, "block": simpler_block,
    "try": simpler_try,
}
