"""Operators, elements, fields, classes, iterators, and the values of errors."""

from livequill.errors import ScriptError
from livequill.values.checks import check_kind, check_place, check_size, checked_integer, refuse_field
from livequill.values.kinds import equal, is_below, is_key, is_true, kind_of, method_of
from livequill.values.refs import Ref
from livequill.values.things import Bound, Cursor, Instance, Kin, Parts, Table

VERBS = {"-": "subtract", "*": "multiply", "/": "divide", "mod": "divide"}
ORDERS = ("<", "<=", ">", ">=")


def unary(store, operator, x):
    """Returns the result of an operator with one operand."""
    if operator == "not":
        return not is_true(x)
    kind = kind_of(store, x)
    if kind != "integer":
        raise ScriptError("KindError", f"cannot negate {kind}")
    return -x


def binary(store, operator, x, y):
    """Returns the result of an operator with two operands."""
    if operator == "==":
        return equal(x, y)
    if operator == "!=":
        return not equal(x, y)
    if operator == "is":
        return is_instance(store, x, y)
    if operator == "+":
        return add(store, x, y)
    if operator in ORDERS:
        return compare(store, operator, x, y)
    return calculate(store, operator, x, y)


def is_instance(store, x, y):
    """Tells whether a value is an instance of a class or of one below it."""
    if kind_of(store, y) != "class":
        raise ScriptError("KindError", "is needs a class")
    return kind_of(store, x) == "instance" and is_below(store, store.at(x).owner, y)


def kinds_of(store, x, y):
    """Returns the pair of the kinds of two values."""
    return kind_of(store, x), kind_of(store, y)


def refuse_operands(verb, kinds):
    """Raises the error of operands of such kinds."""
    raise ScriptError("KindError", f"cannot {verb} {kinds[0]} and {kinds[1]}")


def add(store, x, y):
    """Adds two integers, two texts or two lists."""
    kinds = kinds_of(store, x, y)
    if kinds == ("integer", "integer"):
        return checked_integer(x + y)
    if kinds == ("text", "text"):
        check_size(len(x) + len(y))
        return x + y
    if kinds != ("list", "list"):
        refuse_operands("add", kinds)
    return make_list(store, store.at(x).held + store.at(y).held)


def compare(store, operator, x, y):
    """Tells how two integers or two texts are ordered."""
    kinds = kinds_of(store, x, y)
    if kinds not in (("integer", "integer"), ("text", "text")):
        refuse_operands("compare", kinds)
    if operator == "<":
        return x < y
    if operator == "<=":
        return x <= y
    if operator == ">":
        return x > y
    return x >= y


def calculate(store, operator, x, y):
    """Calculates with two integers."""
    kinds = kinds_of(store, x, y)
    if kinds != ("integer", "integer"):
        refuse_operands(VERBS[operator], kinds)
    if operator == "-":
        return checked_integer(x - y)
    if operator == "*":
        return checked_integer(x * y)
    if y == 0:
        raise ScriptError("ZeroDivisionError", "division by zero")
    quotient = x // y
    return quotient if operator == "/" else x - y * quotient


# Elements


def get_item(store, x, i):
    """Returns an element of a list, a text or a map."""
    kind = kind_of(store, x)
    if kind == "map":
        return value_at(store.at(x), i)
    if kind not in ("list", "text"):
        refuse_index(kind)
    held = store.at(x).held if kind == "list" else x
    check_kind(store, i, "integer")
    check_place(i, len(held))
    return held[i]


def value_at(table, key):
    """Returns the value of a key of a map."""
    check_key(key)
    if not table.has(key):
        raise ScriptError("KeyError", "no such key")
    return table.value_of(key)


def set_item(store, x, i, value):
    """Sets an element of a list or a map, and returns the value."""
    kind = kind_of(store, x)
    if kind == "map":
        put_entry(store.at(x), i, value)
        return value
    if kind != "list":
        refuse_index(kind)
    held = store.at(x).held
    check_kind(store, i, "integer")
    check_place(i, len(held))
    held[i] = value
    return value


def refuse_index(kind):
    """Raises the error of a kind that has no elements, or whose elements cannot be set."""
    raise ScriptError("KindError", f"cannot index {kind}")


def check_key(key):
    """Refuses a value in brackets or braces that cannot be a key."""
    if not is_key(key):
        raise ScriptError("KindError", "keys are null, booleans, integers and texts")


def put_entry(table, key, value):
    """Puts a key with its value into a map."""
    check_key(key)
    if not table.has(key):
        check_size(table.many + 1)
    table.put(key, value)


def make_list(store, values):
    """Makes a list of these values."""
    check_size(len(values))
    return store.make(Parts(values))


def make_map(store, pairs):
    """Makes a map into which the keys are put one after another."""
    table = Table()
    for key, value in pairs:
        put_entry(table, key, value)
    return store.make(table)


# Fields and classes


def get_field(store, x, name):
    """Returns a field of an instance, or a new method bound to it."""
    if kind_of(store, x) != "instance":
        refuse_field(store, x, name)
    thing = store.at(x)
    if name in thing.named:
        return thing.named[name]
    method = method_of(store, thing.owner, name)
    if method is None:
        refuse_field(store, x, name)
    return store.make(Bound(x, method))


def set_field(store, x, name, value):
    """Sets a field of an instance, and returns the value."""
    if kind_of(store, x) != "instance":
        refuse_field(store, x, name)
    set_fields(store, x, ((name, value),))
    return value


def set_fields(store, instance, pairs):
    """Sets several fields of an instance, or none if they do not all find a place."""
    named = store.at(instance).named
    new = [name for name, _ in pairs if name not in named]
    check_size(len(named) + len(new))
    for name, value in pairs:
        named[name] = value


def make_class(store, name, parent):
    """Makes a class with this parent, without one if it is None."""
    if parent is not None and kind_of(store, parent) != "class":
        raise ScriptError("KindError", "the parent is not a class")
    return store.make(Kin(name, parent))


# Iterators and errors


def make_cursor(store, x):
    """Makes an iterator over what a list, a text or a map holds now."""
    kind = kind_of(store, x)
    if kind == "list":
        rest = store.at(x).held
    elif kind == "text":
        rest = list(x)
    elif kind == "map":
        rest = [key for key, _ in store.at(x).pairs()]
    else:
        raise ScriptError("KindError", f"cannot go through {kind}")
    return store.make(Cursor(rest))


def next_of(store, ref):
    """Returns a list of the next value of an iterator, which is given this once, or an empty list."""
    cursor = store.at(ref)
    found = cursor.rest[:1]
    del cursor.rest[:1]
    return found


def make_error(store, error):
    """Makes the value that a ScriptError becomes."""
    return make_failure(store, Ref(0), error.kind, error.message)


def make_failure(store, kin, kind, message):
    """Makes an instance of a class with these two texts as its fields."""
    instance = store.make(Instance(kin))
    set_fields(store, instance, (("kind", kind), ("message", message)))
    return instance
