"""Which objects are reached, and on which way."""

from livequill.heap.objects import SORTS, children_of, numbers_of, roots_of, size_of, sort_of


def reached_from(store, numbers):
    """Returns the list of the numbers of the objects that are reached from some objects, ascending."""
    reached = {number: True for number in numbers}
    waiting = list(reached)
    while waiting:
        number = waiting.pop()
        for child in children_of(store, number):
            if child not in reached:
                reached[child] = True
                waiting.append(child)
    return sorted(list(reached))


def lost_objects(machine):
    """Returns the list of the numbers of the objects that are not reached from a machine, ascending."""
    reached = {number: True for number in reached_from(machine.store, roots_of(machine))}
    return [number for number in range(len(machine.store.things)) if number not in reached]


def way_to(machine, number):
    """Returns the shortest way from a variable in scope to an object, a list of numbers, or None."""
    # Each object that was found, with the one ahead of it on its way.
    ahead = {first: None for frame in machine.frames for first in numbers_of(frame.scope)}
    found = list(ahead)
    at = 0
    while at < len(found) and number not in ahead:
        last = found[at]
        at += 1
        for child in children_of(machine.store, last):
            if child not in ahead:
                ahead[child] = last
                found.append(child)
    return way_back(ahead, number) if number in ahead else None


def way_back(ahead, number):
    """Returns the way to an object that was found."""
    way = []
    while number is not None:
        way.append(number)
        number = ahead[number]
    return way[::-1]


def counts_of(store):
    """Returns a list with a dict for each sort: how many objects of it there are, and their size together."""
    found = {sort: [] for sort in SORTS}
    for number in range(len(store.things)):
        found[sort_of(store, number)].append(size_of(store, number))
    return [{"sort": sort, "count": len(sizes), "size": sum(sizes)} for sort, sizes in found.items()]
