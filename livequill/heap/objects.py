"""To which objects an object and a machine refer, and the sorts and sizes of objects."""

from livequill.values.kinds import kind_of_thing
from livequill.values.refs import Ref
from livequill.values.things import Bound, Closure, Cursor, Instance, Kin, Parts, Table, Variable

SORTS = ("variable", "list", "map", "instance", "class", "function", "method", "iterator")
ERROR = 0


def children_of(store, number):
    """Returns the list of the numbers of the objects to which an object refers, in order."""
    return numbers_of(values_of(store.things[number]))


def numbers_of(values):
    """Returns the list of the numbers of those values that are objects."""
    return [value.number for value in values if isinstance(value, Ref)]


def values_of(thing):
    """Returns the list of all that an object could refer to, whether it is an object or not."""
    if isinstance(thing, Variable):
        return [thing.value]
    if isinstance(thing, Parts):
        return list(thing.held)
    if isinstance(thing, Cursor):
        return list(thing.rest)
    if isinstance(thing, Table):
        return [value for _, value in thing.pairs()]
    if isinstance(thing, Instance):
        return [thing.owner, *list(thing.named.values())]
    if isinstance(thing, Kin):
        return [thing.parent, *list(thing.methods.values())]
    if isinstance(thing, Closure):
        return list(thing.scope)
    return [thing.owner, thing.function]


def roots_of(machine):
    """Returns the list of the numbers of the objects to which a machine refers, in order."""
    found = [ERROR]
    for frame in machine.frames:
        found.extend(numbers_of(frame.scope))
        found.extend(numbers_of(frame.stack))
        for _, scope in frame.handlers:
            found.extend(numbers_of(scope))
        found.extend(numbers_of([frame.made]))
    return found + numbers_of([machine.thrown])


def sort_of(store, number):
    """Returns the sort of an object."""
    thing = store.things[number]
    if isinstance(thing, Variable):
        return "variable"
    if isinstance(thing, Bound):
        return "method"
    if isinstance(thing, Cursor):
        return "iterator"
    # A program takes those three for functions; the other sorts are kinds of values.
    return kind_of_thing(thing)


def size_of(store, number):
    """Returns the size of an object."""
    thing = store.things[number]
    if isinstance(thing, Variable):
        return 1 + length_of(thing.value)
    if isinstance(thing, Kin):
        return 1 + len(thing.methods) + len(thing.name)
    if isinstance(thing, Instance):
        return 1 + size_of_values(list(thing.named.values())) + sum([len(name) for name in thing.named])
    if isinstance(thing, Table):
        return 1 + size_of_values([held for pair in thing.pairs() for held in pair])
    if isinstance(thing, (Parts, Cursor)):
        return 1 + size_of_values(values_of(thing))
    return 1


def size_of_values(values):
    """Returns 1 for each value, and the lengths of those that are texts."""
    return len(values) + sum([length_of(value) for value in values])


def length_of(value):
    """Returns the length of a value that is a text, otherwise 0."""
    return len(value) if isinstance(value, str) else 0
