"""Kinds of values, their truth and equality, and what classes have."""

from livequill.values.refs import Ref
from livequill.values.things import Instance, Kin, Parts, Table


def kind_of(store, value):
    """Returns the kind of a value."""
    if value is None:
        return "null"
    if isinstance(value, bool):
        return "boolean"
    if isinstance(value, int):
        return "integer"
    if isinstance(value, str):
        return "text"
    if isinstance(value, Ref):
        return kind_of_thing(store.at(value))
    return "function"


def kind_of_thing(thing):
    """Returns the kind of an object."""
    if isinstance(thing, Parts):
        return "list"
    if isinstance(thing, Table):
        return "map"
    if isinstance(thing, Instance):
        return "instance"
    if isinstance(thing, Kin):
        return "class"
    return "function"


def is_true(value):
    """Tells whether a value is true."""
    return value is not None and value is not False


def equal(x, y):
    """Tells whether two values are equal."""
    # For Python True is 1, and False is 0.
    return isinstance(x, bool) == isinstance(y, bool) and x == y


def is_key(value):
    """Tells whether a value can be a key of a map."""
    return value is None or isinstance(value, (int, str))


def is_below(store, kin, other):
    """Tells whether a class is another one or below it."""
    while kin is not None:
        if kin == other:
            return True
        kin = store.at(kin).parent
    return False


def method_of(store, kin, name):
    """Returns the method that a class, or the nearest class above it, has by this name, or None."""
    while kin is not None:
        thing = store.at(kin)
        if name in thing.methods:
            return thing.methods[name]
        kin = thing.parent
    return None
