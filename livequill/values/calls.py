"""Calls of built-in functions, and of methods of lists, texts and maps."""

from math import gcd

from livequill.errors import ScriptError, Waiting
from livequill.text.tokens import PERCENT
from livequill.values.checks import (
    MOST_HELD, check_alike, check_arguments, check_count, check_kind, check_size, refuse_field,
)
from livequill.values.copies import copy_of, same
from livequill.values.integers import raised, read_in, root_of, written_in
from livequill.values.kinds import is_true, kind_of
from livequill.values.lists import LIST_METHODS, joined
from livequill.values.maps import MAP_METHODS
from livequill.values.operators import make_list
from livequill.values.texts import TEXT_METHODS
from livequill.values.written import text_of

NEWLINE = 10
FIRST = 32
LAST = 126
# The characters from the blank on. The newline stands where the one is that is no character.
CHARACTERS = (
    " !\"#$\n&'()*+,-./0123456789:;<=>?@ABCDEFGHIJKLMNOPQRSTUVWXYZ[\\]^_`abcdefghijklmnopqrstuvwxyz{|}~"
)


def call_builtin(store, name, values):
    """Returns the result of a built-in function with these arguments."""
    if name in FREE_FUNCTIONS:
        action = FREE_FUNCTIONS[name]
        return action(store, values)
    action, kinds = FUNCTIONS[name]
    check_arguments(store, values, kinds)
    return action(store, *values)


def call_method(store, x, name, values):
    """Returns the result of a method of a list, a text or a map."""
    method = method_for(kind_of(store, x), name)
    if method is None:
        refuse_field(store, x, name)
    action, kinds = method
    check_arguments(store, values, kinds)
    owner = x if isinstance(x, str) else store.at(x)
    return action(store, owner, *values)


def method_for(owner, name):
    """Returns the method that values of a kind have by this name, with the kinds of its arguments, or None."""
    if owner == "list":
        return LIST_METHODS.get(name)
    if owner == "text":
        return TEXT_METHODS.get(name)
    if owner == "map":
        return MAP_METHODS.get(name)
    return None


# Functions that take several numbers of arguments


def print_line(store, values):
    store.output.append(joined(store, values, " "))


def integers_between(store, values):
    if len(values) != 1:
        check_count(values, 2)
    check_arguments(store, values, ("integer", "integer")[:len(values)])
    start = 0 if len(values) == 1 else values[0]
    many = max(0, values[-1] - start)
    check_size(many)
    return make_list(store, list(range(start, start + many)))


def least(store, values):
    return min(choices(store, values))


def greatest(store, values):
    return max(choices(store, values))


def choices(store, values):
    """Returns the values among which the least or the greatest one is looked for."""
    if not values:
        check_count(values, 1)
    held = values
    if len(values) == 1 and kind_of(store, values[0]) == "list":
        held = store.at(values[0]).held
    check_alike(store, held)
    if not held:
        raise ScriptError("ValueError", "nothing to choose from")
    return held


FREE_FUNCTIONS = {"print": print_line, "range": integers_between, "min": least, "max": greatest}


# Functions with a certain number of arguments


def read_line(store):
    if store.taken == len(store.lines):
        raise Waiting()
    store.taken += 1
    return store.lines[store.taken - 1]


def as_text(store, x):
    text = text_of(store, x, MOST_HELD)
    check_size(len(text))
    return text


def as_integer(store, x):
    if kind_of(store, x) == "integer":
        return x
    check_kind(store, x, "text")
    return read_in(x, 10)


def length(store, x):
    if kind_of(store, x) == "map":
        return store.at(x).many
    if isinstance(x, str):
        return len(x)
    check_kind(store, x, "list")
    return len(store.at(x).held)


def kind(store, x):
    return kind_of(store, x)


def without_sign(store, number):
    return abs(number)


def power(store, number, exponent):
    return raised(number, exponent)


def divisor(store, number, other):
    return gcd(number, other)


def root(store, number):
    return root_of(number)


def in_base(store, number, base):
    return written_in(number, base)


def from_base(store, text, base):
    return read_in(text, base)


def character(store, number):
    if number == NEWLINE:
        return "\n"
    if not FIRST <= number <= LAST or number == PERCENT:
        raise ScriptError("ValueError", "no such character")
    return CHARACTERS[number - FIRST]


def assert_true(store, x, message):
    if not is_true(x):
        raise ScriptError("AssertionError", message)


def copy(store, x):
    return copy_of(store, x)


def equals(store, x, y):
    return same(store, x, y)


# Each function with the kinds of its arguments.
FUNCTIONS = {
    "read": (read_line, ()), "str": (as_text, ("any",)), "int": (as_integer, ("any",)),
    "len": (length, ("any",)), "kind": (kind, ("any",)), "abs": (without_sign, ("integer",)),
    "pow": (power, ("integer", "integer")), "gcd": (divisor, ("integer", "integer")), "sqrt": (root, ("integer",)),
    "base": (in_base, ("integer", "integer")), "parse": (from_base, ("text", "integer")),
    "char": (character, ("integer",)), "assert": (assert_true, ("any", "text")),
    "copy": (copy, ("any",)), "equals": (equals, ("any", "any")),
}
