"""Frames and what calls do: points [42], [54], [56] and [57]."""

import unittest

from livequill.errors import ScriptError, Waiting
from livequill.machine.calls import call_named, call_parent, call_value
from livequill.machine.frames import Frame
from livequill.values.refs import Builtin, Ref
from livequill.values.things import Bound, Cursor, Instance, Variable
from stores import NO_PARENT, TOO_MANY_CALLS, WRONG, Shelf, arity, snapshot, told


class FrameTest(unittest.TestCase):
    def test_a_new_frame(self):
        frame = Frame(3, (Ref(5), Ref(1)))
        self.assertEqual((frame.number, frame.at, frame.scope), (3, 0, (Ref(5), Ref(1))))
        self.assertEqual((frame.stack, frame.handlers, frame.made), ([], [], None))
        self.assertIsNot(frame.stack, Frame(3, ()).stack)
        self.assertIsNot(frame.handlers, Frame(3, ()).handlers)


class CallCase(unittest.TestCase):
    def setUp(self):
        self.shelf = Shelf("line")
        self.store = self.shelf.store
        self.outer = self.store.make(Variable("outer"))
        self.function = self.shelf.closure(7, 2, (self.outer,))
        self.empty = self.shelf.closure(8, 0)
        self.method = self.shelf.closure(9, 3, (self.outer,))
        self.base = self.shelf.kin("A", None, m=self.method, e=self.shelf.closure(10, 1))
        self.kin = self.shelf.kin("B", self.base)
        self.instance = self.shelf.instance(self.kin, f=self.function, n=None, b=Builtin("len"))

    def outcome(self, action, *values, calls=1):
        """The error of a call, or its frame and its result; an error leaves the store as it was."""
        before = snapshot(self.store)
        try:
            return action(self.store, *values, calls)
        except ScriptError as error:
            self.assertEqual(snapshot(self.store), before)
            return error.kind, error.message

    def check_frame(self, outcome, number, values, outer, made=None):
        """Checks a new frame, with variables for these values as the last objects of the store."""
        frame, result = outcome
        self.assertIsNone(result)
        self.assertIsInstance(frame, Frame)
        self.assertEqual((frame.number, frame.at, frame.stack, frame.handlers), (number, 0, [], []))
        many = len(self.store.things)
        refs = tuple(Ref(many - len(values) + at) for at in range(len(values)))
        self.assertEqual(frame.scope, (*refs, *outer))
        self.assertEqual([told(self.store.at(ref)) for ref in refs], [told(Variable(value)) for value in values])
        self.assertEqual(frame.made, made)

    def check_instance(self, outcome, owner, *named):
        frame, ref = outcome
        self.assertIsNone(frame)
        self.assertEqual(ref, Ref(len(self.store.things) - 1))
        instance = self.store.at(ref)
        self.assertIsInstance(instance, Instance)
        self.assertEqual((instance.owner, list(instance.named.items())), (owner, list(named)))


class CallTest(CallCase):
    def test_functions(self):
        many = len(self.store.things)
        self.check_frame(self.outcome(call_value, self.function, [1, None]), 7, [1, None], (self.outer,))
        self.assertEqual(len(self.store.things), many + 2)
        self.check_frame(self.outcome(call_value, self.empty, []), 8, [], ())
        for got in (0, 1, 3, 8):
            self.assertEqual(self.outcome(call_value, self.function, [5] * got), arity(2, got))
        self.assertEqual(self.outcome(call_value, self.empty, [5]), arity(0, 1))

    def test_methods(self):
        bound = self.store.make(Bound(self.instance, self.method))
        outcome = self.outcome(call_value, bound, ["a", "b"])
        self.check_frame(outcome, 9, [self.instance, "a", "b"], (self.outer,))
        for got in (0, 1, 3):
            self.assertEqual(self.outcome(call_value, bound, [5] * got), arity(2, got))

    def test_depth(self):
        bound = self.store.make(Bound(self.instance, self.method))
        with_init = self.shelf.kin("C", None, init=self.method)
        actions = [(call_value, self.function), (call_value, bound), (call_value, with_init),
                   (call_named, self.instance, "m"), (call_named, self.instance, "f"),
                   (call_parent, self.instance, self.base, "m")]
        for action, *what in actions:
            for calls in (1, 58, 59):
                self.assertIsInstance(self.outcome(action, *what, [1, 2], calls=calls)[0], Frame)
            for calls in (60, 61):
                self.assertEqual(self.outcome(action, *what, [1, 2], calls=calls), TOO_MANY_CALLS)
                # The number of arguments is looked at first.
                self.assertEqual(self.outcome(action, *what, [1], calls=calls), arity(2, 1))

    def test_operations_need_no_call(self):
        failure = self.shelf.kin("D", Ref(0))
        for called, values in ((Builtin("abs"), [-3]), (self.kin, []), (Ref(0), ["a", "b"]), (failure, ["a", "b"])):
            self.assertIsNone(self.outcome(call_value, called, values, calls=60)[0])
        self.assertEqual(self.outcome(call_named, "abc", "length", [], calls=60), (None, 3))
        self.assertEqual(self.outcome(call_parent, self.instance, failure, "init", ["a", "b"], calls=60), (None, None))

    def test_built_in_functions(self):
        self.assertEqual(self.outcome(call_value, Builtin("max"), [1, 5]), (None, 5))
        self.assertEqual(self.outcome(call_value, Builtin("abs"), []), arity(1, 0))
        self.assertEqual(self.outcome(call_value, Builtin("abs"), ["a"]), WRONG)
        self.assertEqual(self.outcome(call_value, Builtin("read"), []), (None, "line"))
        with self.assertRaises(Waiting):
            call_value(self.store, Builtin("read"), [], 1)

    def test_other_values(self):
        for kind, value in self.shelf.of_each_kind():
            if kind not in ("class", "function"):
                for values in ([], [1]):
                    self.assertEqual(self.outcome(call_value, value, values), ("KindError", f"cannot call {kind}"))
        for thing in (Variable(1), Cursor([1])):
            self.assertEqual(self.outcome(call_value, self.store.make(thing), []),
                             ("KindError", "cannot call function"))

    def test_classes_without_init(self):
        many = len(self.store.things)
        for kin in (self.base, self.kin):
            self.check_instance(self.outcome(call_value, kin, []), kin)
            for got in (1, 2, 3):
                self.assertEqual(self.outcome(call_value, kin, ["a"] * got), arity(0, got))
        self.assertEqual(len(self.store.things), many + 2)

    def test_classes_with_init(self):
        kin = self.shelf.kin("C", None, init=self.method)
        below = self.shelf.kin("D", self.shelf.kin("M", kin))
        for owner in (kin, below):
            many = len(self.store.things)
            outcome = self.outcome(call_value, owner, ["a", "b"])
            self.check_frame(outcome, 9, [Ref(many), "a", "b"], (self.outer,), made=Ref(many))
            self.assertEqual(told(self.store.at(Ref(many))), told(Instance(owner)))
            self.assertEqual(len(self.store.things), many + 4)
            for got in (0, 1, 3):
                self.assertEqual(self.outcome(call_value, owner, [1] * got), arity(2, got))

    def test_errors(self):
        failure = self.shelf.kin("D", self.shelf.kin("C", Ref(0)))
        for kin in (Ref(0), failure):
            self.check_instance(self.outcome(call_value, kin, ["a", "b"]), kin, ("kind", "a"), ("message", "b"))
            for got in (0, 1, 3):
                self.assertEqual(self.outcome(call_value, kin, ["a"] * got), arity(2, got))
            for kind, value in self.shelf.of_each_kind():
                if kind != "text":
                    self.assertEqual(self.outcome(call_value, kin, [value, "a"]), WRONG)
                    self.assertEqual(self.outcome(call_value, kin, ["a", value]), WRONG)

    def test_classes_below_error_with_init(self):
        kin = self.shelf.kin("C", Ref(0), init=self.method)
        many = len(self.store.things)
        outcome = self.outcome(call_value, self.shelf.kin("D", kin), [1, 2])
        self.check_frame(outcome, 9, [Ref(many + 1), 1, 2], (self.outer,), made=Ref(many + 1))

    def test_an_init_that_is_not_called_as_such(self):
        kin = self.shelf.kin("C", None, init=self.method)
        instance = self.shelf.instance(kin)
        self.check_frame(self.outcome(call_named, instance, "init", [1, 2]), 9, [instance, 1, 2], (self.outer,))
        self.check_frame(self.outcome(call_parent, instance, kin, "init", [1, 2]), 9, [instance, 1, 2], (self.outer,))


class NamedTest(CallCase):
    """Calls of what an instance or another value has by a name."""

    def test_fields_and_methods(self):
        self.check_frame(self.outcome(call_named, self.instance, "f", [1, 2]), 7, [1, 2], (self.outer,))
        self.check_frame(self.outcome(call_named, self.instance, "m", [1, 2]), 9, [self.instance, 1, 2], (self.outer,))
        self.check_frame(self.outcome(call_named, self.instance, "e", []), 10, [self.instance], ())
        self.assertEqual(self.outcome(call_named, self.instance, "b", ["ab"]), (None, 2))
        self.assertEqual(self.outcome(call_named, self.instance, "n", []), ("KindError", "cannot call null"))
        self.assertEqual(self.outcome(call_named, self.instance, "x", []), ("FieldError", "instance has no field x"))
        self.assertEqual(self.outcome(call_named, self.instance, "e", [1]), arity(0, 1))

    def test_a_field_hides_a_method(self):
        self.store.at(self.instance).named["m"] = Builtin("kind")
        self.assertEqual(self.outcome(call_named, self.instance, "m", [1]), (None, "integer"))

    def test_no_new_method_is_made(self):
        many = len(self.store.things)
        self.outcome(call_named, self.instance, "m", [1, 2])
        self.assertEqual(len(self.store.things), many + 3)

    def test_other_values(self):
        self.assertEqual(self.outcome(call_named, self.shelf.list(4), "pop", []), (None, 4))
        self.assertEqual(self.outcome(call_named, self.shelf.map((1, 2)), "get", [1, 0]), (None, 2))
        self.assertEqual(self.outcome(call_named, "ab", "upper", []), (None, "AB"))
        for kind, value in self.shelf.of_each_kind():
            if kind != "instance":
                for values in ([], [1]):
                    self.assertEqual(self.outcome(call_named, value, "m", values),
                                     ("FieldError", f"{kind} has no field m"))


class ParentTest(CallCase):
    """Calls of a method of the parent."""

    def test_methods(self):
        outcome = self.outcome(call_parent, self.instance, self.kin, "m", [1, 2])
        self.check_frame(outcome, 9, [self.instance, 1, 2], (self.outer,))
        self.assertEqual(self.outcome(call_parent, self.instance, self.kin, "m", []), arity(2, 0))
        # Fields are not looked at.
        self.assertEqual(self.outcome(call_parent, self.instance, self.base, "f", [1, 2]),
                         ("FieldError", "instance has no field f"))
        self.assertEqual(self.outcome(call_parent, self.instance, self.base, "init", []),
                         ("FieldError", "instance has no field init"))

    def test_without_a_parent(self):
        for name in ("m", "init"):
            self.assertEqual(self.outcome(call_parent, self.instance, None, name, [1]), NO_PARENT)

    def test_wrong_values(self):
        for kind, value in self.shelf.of_each_kind():
            if kind not in ("null", "class"):
                self.assertEqual(self.outcome(call_parent, self.instance, value, "m", []), WRONG)
            if kind != "instance":
                self.assertEqual(self.outcome(call_parent, value, self.base, "m", [], calls=60), WRONG)
                self.assertEqual(self.outcome(call_parent, value, None, "m", []), WRONG)

    def test_init_of_error(self):
        failure = self.shelf.kin("D", Ref(0))
        for parent in (Ref(0), failure, self.shelf.kin("E", failure)):
            instance = self.shelf.instance(self.kin, message=5, x=6)
            many = len(self.store.things)
            self.assertEqual(self.outcome(call_parent, instance, parent, "init", ["a", "b"]), (None, None))
            self.assertEqual(list(self.store.at(instance).named.items()),
                             [("message", "b"), ("x", 6), ("kind", "a")])
            self.assertEqual(len(self.store.things), many)
            for got in (0, 1, 3):
                self.assertEqual(self.outcome(call_parent, instance, parent, "init", ["a"] * got), arity(2, got))
            self.assertEqual(self.outcome(call_parent, instance, parent, "init", ["a", 1]), WRONG)
            self.assertEqual(self.outcome(call_parent, instance, parent, "m", ["a", "b"]),
                             ("FieldError", "instance has no field m"))

    def test_init_of_error_that_finds_no_place(self):
        for before, named in ((998, {}), (999, {"kind": 1}), (1000, {"kind": 1, "message": 2})):
            fields = {f"f{number}": 1 for number in range(before - len(named))}
            instance = self.shelf.instance(self.kin, **fields, **named)
            self.assertEqual(self.outcome(call_parent, instance, Ref(0), "init", ["a", "b"]), (None, None))
        for before, named in ((999, {}), (1000, {"message": 1}), (1000, {})):
            fields = {f"f{number}": 1 for number in range(before - len(named))}
            instance = self.shelf.instance(self.kin, **fields, **named)
            self.assertEqual(self.outcome(call_parent, instance, Ref(0), "init", ["a", "b"]),
                             ("SizeError", "too large"))
            self.assertEqual(self.outcome(call_parent, instance, Ref(0), "init", ["a", None]), WRONG)


if __name__ == "__main__":
    unittest.main()
