"""The objects of a store. Each can make an equal one of its own for a copy of its store."""


class Parts:
    """A list."""

    def __init__(self, held):
        self.held = list(held)

    def fork(self):
        return Parts(self.held)


class Table:
    """A map. Its entries stand in the order in which their keys were put."""

    def __init__(self):
        self._entries = {}

    def has(self, key):
        """Tells whether the key is there."""
        return tagged(key) in self._entries

    def value_of(self, key):
        """Returns the value of a key that is there."""
        return self._entries[tagged(key)][1]

    def put(self, key, value):
        """Gives the key this value."""
        self._entries[tagged(key)] = (key, value)

    def take_out(self, key):
        """Removes a key that is there."""
        del self._entries[tagged(key)]

    def pairs(self):
        """Returns the list of the pairs of a key and its value, in order."""
        return list(self._entries.values())

    @property
    def many(self):
        """The number of entries."""
        return len(self._entries)

    def fork(self):
        other = Table()
        for key, value in self.pairs():
            other.put(key, value)
        return other


def tagged(key):
    """Returns what stands for a key in a dict of Python, for which True and 1 are the same key."""
    return (isinstance(key, bool), key)


class Instance:
    """An instance of a class."""

    def __init__(self, owner):
        self.owner = owner
        self.named = {}

    def fork(self):
        other = Instance(self.owner)
        other.named = dict(self.named)
        return other


class Kin:
    """A class."""

    def __init__(self, name, parent):
        self.name = name
        self.parent = parent
        self.methods = {}

    def fork(self):
        other = Kin(self.name, self.parent)
        other.methods = dict(self.methods)
        return other


class Closure:
    """A function with the variables in scope where it was made."""

    def __init__(self, number, wanted, scope):
        self.number = number
        self.wanted = wanted
        self.scope = scope

    def fork(self):
        return Closure(self.number, self.wanted, self.scope)


class Bound:
    """A method of a class, bound to an instance."""

    def __init__(self, owner, function):
        self.owner = owner
        self.function = function

    def fork(self):
        return Bound(self.owner, self.function)


class Variable:
    """A variable."""

    def __init__(self, value):
        self.value = value

    def fork(self):
        return Variable(self.value)


class Cursor:
    """An iterator, with the values that it still has to give."""

    def __init__(self, rest):
        self.rest = list(rest)

    def fork(self):
        return Cursor(self.rest)
