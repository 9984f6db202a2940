"""The store that holds the objects of a program, its output and its input."""

from livequill.values.refs import Ref
from livequill.values.things import Kin


class Store:
    """A store, at first with the class Error alone."""

    def __init__(self, lines):
        self.things = [Kin("Error", None)]
        self.output = []
        self.lines = list(lines)
        self.taken = 0

    def make(self, thing):
        """Adds an object and returns its Ref."""
        self.things.append(thing)
        return Ref(len(self.things) - 1)

    def at(self, ref):
        """Returns an object."""
        return self.things[ref.number]

    def fork(self):
        """Returns an equal store of its own."""
        other = Store(self.lines)
        other.things = [thing.fork() for thing in self.things]
        other.output = list(self.output)
        other.taken = self.taken
        return other
