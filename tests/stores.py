"""Helpers of the tests for stores: values of each kind, what a store holds, and errors of operations."""

from livequill.errors import ScriptError
from livequill.values.refs import Builtin, Ref
from livequill.values.store import Store
from livequill.values.things import Bound, Closure, Cursor, Instance, Kin, Parts, Table, Variable

MOST = 10 ** 300 - 1

# Errors that many operations raise.
SIZE = ("SizeError", "too large")
WRONG = ("KindError", "wrong argument")
RANGE = ("IndexError", "index out of range")
NO_KEY = ("KeyError", "no such key")
OVERFLOW = ("OverflowError", "the integer is too large")
TOO_MANY_CALLS = ("RecursionError", "too many calls")
NO_PARENT = ("KindError", "there is no parent class")


def arity(wanted, got):
    """The error of a wrong number of arguments."""
    return "ArityError", f"expected {wanted} arguments, got {got}"


class Shelf:
    """A store, and short ways to put objects into it."""

    def __init__(self, *lines):
        self.store = Store(list(lines))

    def list(self, *parts):
        return self.store.make(Parts(parts))

    def map(self, *pairs):
        table = Table()
        for key, value in pairs:
            table.put(key, value)
        return self.store.make(table)

    def kin(self, name="A", parent=None, **methods):
        kin = Kin(name, parent)
        kin.methods.update(methods)
        return self.store.make(kin)

    def instance(self, owner=Ref(0), **named):
        instance = Instance(owner)
        instance.named.update(named)
        return self.store.make(instance)

    def closure(self, number=1, wanted=0, scope=()):
        return self.store.make(Closure(number, wanted, scope))

    def held(self, ref):
        """The parts of a list, or the pairs of a map."""
        thing = self.store.at(ref)
        return thing.held if isinstance(thing, Parts) else thing.pairs()

    def of_each_kind(self):
        """Pairs of a kind and a value, at least one for each kind."""
        function = self.closure()
        instance = self.instance(self.kin("I"))
        return [
            ("null", None), ("boolean", True), ("boolean", False), ("integer", 1), ("integer", 0),
            ("text", "t"), ("text", ""), ("list", self.list(1)), ("map", self.map((1, 2))),
            ("instance", instance), ("class", self.kin("C")), ("class", Ref(0)),
            ("function", Builtin("len")), ("function", function),
            ("function", self.store.make(Bound(instance, function))),
            ("function", self.store.make(Variable(1))), ("function", self.store.make(Cursor([1]))),
        ]


def told(thing):
    """Everything that an object holds, in an order that tells it apart from what is not the same."""
    if isinstance(thing, Table):
        return "Table", [(repr(key), repr(value)) for key, value in thing.pairs()]
    return thing.__class__.__name__, [(name, repr(value)) for name, value in sorted(vars(thing).items())], [
        list(value) for value in vars(thing).values() if isinstance(value, dict)]


def snapshot(store):
    """All that a store holds."""
    return [told(thing) for thing in store.things], list(store.output), list(store.lines), store.taken


def error_of(store, action, *values):
    """The kind and the message of the error that an operation raises; None if it raises none.

    An operation that raises must leave the store as it was.
    """
    before = snapshot(store)
    try:
        action(store, *values)
    except ScriptError as error:
        assert snapshot(store) == before, "an operation that raised has changed the store"
        return error.kind, error.message
    return None
