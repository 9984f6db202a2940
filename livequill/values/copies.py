"""Copies of lists and maps with all that they hold, and whether two of them hold the same."""

from livequill.values.kinds import equal
from livequill.values.refs import Ref
from livequill.values.things import Parts, Table


def copy_of(store, value):
    """Returns the value, but for a list or a map a new one with copies of what it holds."""
    copies = Copies(store)
    result = copies.copy_for(value)
    # What is found on the way comes behind, so the copies are made in the order of finding.
    at = 0
    while at < len(copies.found):
        fill(copies, copies.found[at])
        at += 1
    return result


class Copies:
    """The copies that were made, by the numbers of what they are copies of; they are filled later."""

    def __init__(self, store):
        self.store = store
        self.found = []
        self.by_number = {}

    def copy_for(self, value):
        """Returns the copy of a list or a map, a new one if it had none, and any other value itself."""
        if not is_holder(self.store, value):
            return value
        if value.number not in self.by_number:
            thing = Parts([]) if isinstance(self.store.at(value), Parts) else Table()
            self.by_number[value.number] = self.store.make(thing)
            self.found.append(value)
        return self.by_number[value.number]


def is_holder(store, value):
    """Tells whether a value is a list or a map."""
    return isinstance(value, Ref) and isinstance(store.at(value), (Parts, Table))


def fill(copies, original):
    """Gives the copy of a list or a map what it holds."""
    thing = copies.store.at(original)
    copy = copies.store.at(copies.copy_for(original))
    if isinstance(thing, Parts):
        copy.held = [copies.copy_for(part) for part in thing.held]
    else:
        for key, value in thing.pairs():
            copy.put(key, copies.copy_for(value))


def same(store, x, y):
    """Tells whether two values are equal, or lists or maps that hold the same."""
    compared = {}
    pairs = [(x, y)]
    while pairs:
        one, other = pairs.pop()
        if equal(one, other):
            continue
        if not is_holder(store, one) or not is_holder(store, other):
            return False
        if (one.number, other.number) not in compared:
            compared[(one.number, other.number)] = True
            inner = pairs_within(store.at(one), store.at(other))
            if inner is None:
                return False
            pairs.extend(inner)
    return True


def pairs_within(thing, match):
    """Returns the list of the pairs of values that must be the same in two lists or maps, or None."""
    if isinstance(thing, Parts) and isinstance(match, Parts):
        if len(thing.held) != len(match.held):
            return None
        return list(zip(thing.held, match.held))
    if isinstance(thing, Table) and isinstance(match, Table):
        if thing.many != match.many or not all([match.has(key) for key, _ in thing.pairs()]):
            return None
        return [(value, match.value_of(key)) for key, value in thing.pairs()]
    return None
