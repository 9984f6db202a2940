"""Values, objects, kinds, truth and equality: points [26] to [29]."""

import unittest

from livequill.values.kinds import equal, is_below, is_key, is_true, kind_of, method_of
from livequill.values.refs import BUILTINS, Builtin, Ref
from livequill.values.store import Store
from livequill.values.things import Bound, Closure, Cursor, Instance, Kin, Parts, Table, Variable


class RefsTest(unittest.TestCase):
    def test_refs(self):
        self.assertEqual(Ref(3).number, 3)
        self.assertTrue(Ref(3) == Ref(3))
        self.assertFalse(Ref(3) != Ref(3))
        self.assertFalse(Ref(3) == Ref(4))

    def test_builtins(self):
        self.assertEqual(Builtin("len").name, "len")
        self.assertTrue(Builtin("len") == Builtin("len"))
        self.assertFalse(Builtin("len") == Builtin("max"))
        self.assertEqual(len(BUILTINS), 19)

    def test_others(self):
        for value in (None, True, 3, "len", "3", (3,), Builtin("len")):
            self.assertFalse(Ref(3) == value)
            self.assertFalse(value == Ref(3))
        for value in (None, True, 3, "len", Ref(3)):
            self.assertFalse(Builtin("len") == value)
            self.assertTrue(value != Builtin("len"))


class ThingsTest(unittest.TestCase):
    def test_parts(self):
        held = [1, "a", None]
        parts = Parts(held)
        held.append(2)
        self.assertEqual(parts.held, [1, "a", None])
        self.assertEqual(Parts([]).held, [])

    def test_instances(self):
        instance = Instance(Ref(0))
        self.assertEqual((instance.owner, instance.named), (Ref(0), {}))
        instance.named["x"] = 1
        self.assertEqual(Instance(Ref(0)).named, {})

    def test_classes(self):
        kin = Kin("A", Ref(0))
        self.assertEqual((kin.name, kin.parent, kin.methods), ("A", Ref(0), {}))
        self.assertIsNone(Kin("B", None).parent)

    def test_functions(self):
        closure = Closure(3, 2, (Ref(1), Ref(2)))
        self.assertEqual((closure.number, closure.wanted, closure.scope), (3, 2, (Ref(1), Ref(2))))

    def test_methods(self):
        bound = Bound(Ref(1), Ref(2))
        self.assertEqual((bound.owner, bound.function), (Ref(1), Ref(2)))

    def test_variables(self):
        variable = Variable(None)
        variable.value = Ref(2)
        self.assertEqual(variable.value, Ref(2))

    def test_cursors(self):
        rest = [1, 2]
        cursor = Cursor(rest)
        rest.clear()
        self.assertEqual(cursor.rest, [1, 2])


class TableTest(unittest.TestCase):
    def table(self, *pairs):
        table = Table()
        for key, value in pairs:
            table.put(key, value)
        return table

    def test_empty(self):
        self.assertEqual((Table().many, Table().pairs(), Table().has(None)), (0, [], False))

    def test_keys_that_differ_in_kind_alone(self):
        keys = [1, True, "1", 0, False, "0", None, "", "true", "null"]
        table = Table()
        for index, key in enumerate(keys):
            self.assertFalse(table.has(key))
            self.assertIsNone(table.put(key, index))
        self.assertEqual(table.many, len(keys))
        for index, key in enumerate(keys):
            self.assertTrue(table.has(key))
            self.assertEqual(table.value_of(key), index)
        self.assertEqual([repr(key) for key, _ in table.pairs()], [repr(key) for key in keys])

    def test_keys_keep_their_kind(self):
        table = self.table((True, 1), (1, True))
        self.assertIs(table.pairs()[0][0], True)
        self.assertIs(table.pairs()[1][1], True)
        self.assertNotIsInstance(table.pairs()[1][0], bool)

    def test_a_new_value_keeps_the_place(self):
        table = self.table((1, "a"), (2, "b"), (3, "c"), (2, "d"))
        self.assertEqual(table.pairs(), [(1, "a"), (2, "d"), (3, "c")])
        self.assertEqual(table.many, 3)

    def test_taken_out_and_put_again(self):
        table = self.table((1, "a"), (2, "b"), (3, "c"))
        self.assertIsNone(table.take_out(1))
        self.assertEqual((table.pairs(), table.many, table.has(1)), ([(2, "b"), (3, "c")], 2, False))
        table.put(1, "d")
        self.assertEqual(table.pairs(), [(2, "b"), (3, "c"), (1, "d")])

    def test_take_out_takes_the_key_of_its_kind(self):
        table = self.table((1, "a"), (True, "b"))
        table.take_out(True)
        self.assertEqual(table.pairs(), [(1, "a")])

    def test_has_answers_with_booleans(self):
        table = self.table((1, None))
        self.assertIs(table.has(1), True)
        self.assertIs(table.has(2), False)

    def test_pairs_are_a_new_list_of_tuples(self):
        table = self.table((1, "a"))
        table.pairs().clear()
        self.assertEqual(table.pairs(), [(1, "a")])
        self.assertIsInstance(table.pairs()[0], tuple)

    def test_great_keys(self):
        table = self.table((10 ** 299, 1), (-10 ** 299, 2))
        self.assertEqual((table.value_of(10 ** 299), table.value_of(-10 ** 299)), (1, 2))


class StoreTest(unittest.TestCase):
    def test_a_new_store(self):
        lines = ["a", "b"]
        store = Store(lines)
        lines.clear()
        self.assertEqual((store.lines, store.output, store.taken), (["a", "b"], [], 0))
        (error,) = store.things
        self.assertEqual((error.name, error.parent, error.methods), ("Error", None, {}))

    def test_objects_are_numbered(self):
        store = Store([])
        self.assertEqual(store.make(Variable(5)), Ref(1))
        self.assertEqual(store.make(Parts([])), Ref(2))
        self.assertEqual(store.at(Ref(1)).value, 5)
        self.assertIs(store.at(Ref(2)), store.things[2])
        self.assertEqual(store.at(Ref(0)).name, "Error")

    def test_a_copy_is_equal_and_its_own(self):
        store = Store(["x"])
        table = Table()
        table.put(True, 1)
        table.put(1, 2)
        kin = Kin("A", Ref(0))
        kin.methods["m"] = Ref(5)
        instance = Instance(Ref(2))
        instance.named["f"] = 3
        for thing in (table, kin, instance, Parts([1]), Closure(1, 2, (Ref(6),)), Variable(7), Bound(Ref(3), Ref(5)),
                      Cursor([8])):
            store.make(thing)
        store.output.append("out")
        store.taken = 1
        copy = store.fork()
        self.assertEqual((copy.lines, copy.output, copy.taken), (["x"], ["out"], 1))
        self.assertEqual([self.told(thing) for thing in copy.things], [self.told(thing) for thing in store.things])
        for one, other in zip(store.things, copy.things, strict=True):
            self.assertIsNot(one, other)
        before = [self.told(thing) for thing in store.things]
        copy.at(Ref(1)).put(3, 3)
        copy.at(Ref(2)).methods["n"] = Ref(5)
        copy.at(Ref(3)).named["g"] = 4
        copy.at(Ref(4)).held.append(2)
        copy.at(Ref(6)).value = 9
        copy.at(Ref(8)).rest.clear()
        copy.output.append("more")
        copy.lines.append("y")
        copy.make(Variable(1))
        self.assertEqual([self.told(thing) for thing in store.things], before)
        self.assertEqual((store.lines, store.output, store.taken), (["x"], ["out"], 1))

    def told(self, thing):
        fields = {name: value for name, value in vars(thing).items() if not name.startswith("_")}
        pairs = [(repr(key), value) for key, value in thing.pairs()] if isinstance(thing, Table) else []
        return thing.__class__.__name__, repr(fields), pairs


class KindsTest(unittest.TestCase):
    def setUp(self):
        self.store = Store([])

    def kinds(self, *values):
        return [kind_of(self.store, value) for value in values]

    def test_plain_values(self):
        self.assertEqual(self.kinds(None, True, False), ["null", "boolean", "boolean"])
        self.assertEqual(self.kinds(0, 1, -5, 10 ** 299), ["integer"] * 4)
        self.assertEqual(self.kinds("", "a", "null"), ["text"] * 3)
        self.assertEqual(self.kinds(*[Builtin(name) for name in BUILTINS]), ["function"] * len(BUILTINS))

    def test_objects(self):
        things = {
            "list": [Parts([]), Parts([1])], "map": [Table()], "instance": [Instance(Ref(0))],
            "class": [Kin("A", None)],
            "function": [Closure(1, 0, ()), Bound(Ref(0), Ref(0)), Variable(1), Variable("a"), Cursor([])],
        }
        for kind, held in things.items():
            for thing in held:
                with self.subTest(thing):
                    self.assertEqual(kind_of(self.store, self.store.make(thing)), kind)
        self.assertEqual(kind_of(self.store, Ref(0)), "class")

    def test_truth(self):
        self.assertIs(is_true(None), False)
        self.assertIs(is_true(False), False)
        for value in (True, 0, 1, -1, "", "false", Ref(0), Builtin("len")):
            self.assertIs(is_true(value), True)

    def test_keys(self):
        for value in (None, True, False, 0, 7, -7, "", "a"):
            self.assertIs(is_key(value), True)
        for value in (Ref(0), Builtin("len")):
            self.assertIs(is_key(value), False)


class EqualTest(unittest.TestCase):
    VALUES = [None, True, False, 1, 0, -1, 10 ** 299, "", "a", "1", "true", "null", Ref(0), Ref(1), Builtin("len"),
              Builtin("max")]

    def test_each_value_is_equal_to_itself_alone(self):
        for at, x in enumerate(self.VALUES):
            for index, y in enumerate(self.VALUES):
                with self.subTest((x, y)):
                    self.assertIs(equal(x, y), at == index)

    def test_values_that_are_made_anew(self):
        self.assertIs(equal(Ref(7), Ref(7)), True)
        self.assertIs(equal(Builtin("len"), Builtin("len")), True)
        self.assertIs(equal(10 ** 299 + 1, 10 ** 299 + 1), True)
        self.assertIs(equal("ab" * 9, "abab" * 4 + "ab"), True)

    def test_booleans_and_integers(self):
        for boolean, integer in ((True, 1), (False, 0)):
            self.assertIs(equal(boolean, integer), False)
            self.assertIs(equal(integer, boolean), False)

    def test_objects_with_equal_parts_are_not_equal(self):
        store = Store([])
        self.assertIs(equal(store.make(Parts([1])), store.make(Parts([1]))), False)


class ClassesTest(unittest.TestCase):
    def setUp(self):
        self.store = Store([])
        self.base = self.kin("A", None, m=Ref(11), n=Ref(12))
        self.middle = self.kin("B", self.base, n=Ref(22), k=Ref(23))
        self.last = self.kin("C", self.middle, k=Ref(33))
        self.other = self.kin("A", None, m=Ref(44))
        self.failure = self.kin("D", Ref(0))

    def kin(self, name, parent, **methods):
        kin = Kin(name, parent)
        kin.methods.update(methods)
        return self.store.make(kin)

    def test_is_below(self):
        below = {(self.last.number, other.number) for other in (self.last, self.middle, self.base)}
        below |= {(self.middle.number, other.number) for other in (self.middle, self.base)}
        below |= {(self.base.number, self.base.number), (self.other.number, self.other.number), (0, 0)}
        below |= {(self.failure.number, self.failure.number), (self.failure.number, 0)}
        for kin in range(6):
            for other in range(6):
                with self.subTest((kin, other)):
                    self.assertIs(is_below(self.store, Ref(kin), Ref(other)), (kin, other) in below)

    def test_method_of(self):
        found = {
            (self.base.number, "m"): Ref(11), (self.base.number, "n"): Ref(12),
            (self.middle.number, "m"): Ref(11), (self.middle.number, "n"): Ref(22), (self.middle.number, "k"): Ref(23),
            (self.last.number, "m"): Ref(11), (self.last.number, "n"): Ref(22), (self.last.number, "k"): Ref(33),
            (self.other.number, "m"): Ref(44),
        }
        for kin in range(6):
            for name in ("m", "n", "k", "init", ""):
                with self.subTest((kin, name)):
                    self.assertEqual(method_of(self.store, Ref(kin), name), found.get((kin, name)))


if __name__ == "__main__":
    unittest.main()
