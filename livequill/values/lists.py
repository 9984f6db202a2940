"""The methods of lists."""

from livequill.values.checks import (
    MOST_HELD, check_alike, check_gap, check_gaps, check_kind, check_place, check_size, checked_integer,
)
from livequill.values.kinds import equal
from livequill.values.operators import make_list
from livequill.values.things import Parts
from livequill.values.written import text_of


def push(store, parts, x):
    check_size(len(parts.held) + 1)
    parts.held.append(x)


def insert(store, parts, i, x):
    check_gap(i, len(parts.held))
    check_size(len(parts.held) + 1)
    parts.held.insert(i, x)


def take_last(store, parts):
    check_place(0, len(parts.held))
    return parts.held.pop()


def take_out(store, parts, i):
    check_place(i, len(parts.held))
    return parts.held.pop(i)


def length(store, parts):
    return len(parts.held)


def part_between(store, parts, i, j):
    check_gaps(i, j, len(parts.held))
    return make_list(store, parts.held[i:j])


def join(store, parts, between):
    return joined(store, parts.held, between)


def joined(store, values, between):
    """Returns a text: values as `str` gives them, with another text between two of them."""
    pieces = []
    size = 0
    for value in values:
        if pieces:
            pieces.append(between)
            size += len(between)
        pieces.append(text_of(store, value, MOST_HELD))
        size += len(pieces[-1])
        check_size(size)
    return "".join(pieces)


def contains(store, parts, x):
    return find(store, parts, x) is not None


def find(store, parts, x):
    for index, part in enumerate(parts.held):
        if equal(part, x):
            return index
    return None


def count(store, parts, x):
    return len([part for part in parts.held if equal(part, x)])


def turn_around(store, parts):
    parts.held = parts.held[::-1]


def sort(store, parts):
    check_alike(store, parts.held)
    parts.held = sorted(parts.held)


def extend(store, parts, other):
    more = store.at(other).held
    check_size(len(parts.held) + len(more))
    parts.held = parts.held + more


def total(store, parts):
    for part in parts.held:
        check_kind(store, part, "integer")
    return checked_integer(sum(parts.held))


def copy(store, parts):
    return make_list(store, parts.held)


def pair_up(store, parts, other):
    return make_pairs(store, list(zip(parts.held, store.at(other).held)))


def make_pairs(store, pairs):
    """Makes a list of new lists of two, which are made first."""
    return store.make(Parts([store.make(Parts(pair)) for pair in pairs]))


# Each method with the kinds of its arguments.
LIST_METHODS = {
    "push": (push, ("any",)), "insert": (insert, ("integer", "any")),
    "pop": (take_last, ()), "remove": (take_out, ("integer",)),
    "length": (length, ()), "slice": (part_between, ("integer", "integer")), "join": (join, ("text",)),
    "contains": (contains, ("any",)), "find": (find, ("any",)), "count": (count, ("any",)),
    "reverse": (turn_around, ()), "sort": (sort, ()), "extend": (extend, ("list",)),
    "sum": (total, ()), "copy": (copy, ()), "zip": (pair_up, ("list",)),
}
