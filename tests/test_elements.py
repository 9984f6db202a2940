"""Elements, fields, classes, iterators and the values of errors: points [27], [30], [32], [33], [39]."""

import unittest

from livequill.errors import ScriptError
from livequill.values.operators import (
    get_field, get_item, make_class, make_cursor, make_error, make_list, make_map, next_of, set_field, set_item,
)
from livequill.values.refs import Builtin, Ref
from livequill.values.things import Bound, Cursor, Instance, Kin, Parts, Table
from stores import NO_KEY, RANGE, SIZE, WRONG, Shelf, error_of, snapshot

KEYS = ("KindError", "keys are null, booleans, integers and texts")


class ShelfTest(unittest.TestCase):
    def setUp(self):
        self.shelf = Shelf()
        self.store = self.shelf.store
        self.values = self.shelf.of_each_kind()

    def refused(self, action, *values):
        return error_of(self.store, action, *values)


class GetItemTest(ShelfTest):
    def test_lists_and_texts(self):
        parts = self.shelf.list("a", None, True)
        for x, held in ((parts, ["a", None, True]), ("xyz", ["x", "y", "z"])):
            for i in range(3):
                self.assertEqual(get_item(self.store, x, i), held[i])
            for i in (-1, -2, 3, 4, 10 ** 299, -10 ** 299):
                self.assertEqual(self.refused(get_item, x, i), RANGE)

    def test_empty(self):
        for x in (self.shelf.list(), ""):
            for i in (-1, 0, 1):
                self.assertEqual(self.refused(get_item, x, i), RANGE)

    def test_characters(self):
        self.assertEqual(get_item(self.store, "a\n\"", 1), "\n")
        self.assertEqual(get_item(self.store, "z" * 1000, 999), "z")

    def test_kinds_of_indexes(self):
        for x in (self.shelf.list(5, 6), "ab"):
            for kind, i in self.values:
                expected = None if kind == "integer" else WRONG
                self.assertEqual(self.refused(get_item, x, i), expected, (x, kind))

    def test_kinds_of_keys(self):
        table = self.shelf.map((None, "n"), (True, "t"), (False, "f"), (1, "1"), (0, "0"), ("", "e"))
        for kind, i in self.values:
            if kind in ("null", "boolean", "integer") or i == "":
                expected = None
            elif kind == "text":
                expected = NO_KEY
            else:
                expected = KEYS
            self.assertEqual(self.refused(get_item, table, i), expected, (kind, i))
        found = [get_item(self.store, table, key) for key in (None, True, False, 1, 0, "")]
        self.assertEqual(found, ["n", "t", "f", "1", "0", "e"])

    def test_keys_that_are_not_there(self):
        table = self.shelf.map((1, "a"))
        for key in (True, "1", None, 2, -1):
            self.assertEqual(self.refused(get_item, table, key), NO_KEY)
        self.assertEqual(self.refused(get_item, self.shelf.map(), 1), NO_KEY)

    def test_other_kinds(self):
        for kind, x in self.values:
            if kind not in ("list", "text", "map"):
                for i in (0, "a", self.shelf.list()):
                    self.assertEqual(self.refused(get_item, x, i), ("KindError", f"cannot index {kind}"))


class SetItemTest(ShelfTest):
    def test_lists(self):
        parts = self.shelf.list(1, 2, 3)
        self.assertEqual(set_item(self.store, parts, 0, "a"), "a")
        self.assertIs(set_item(self.store, parts, 2, None), None)
        self.assertEqual(self.shelf.held(parts), ["a", 2, None])
        for i in (-1, 3, -3):
            self.assertEqual(self.refused(set_item, parts, i, 7), RANGE)
        self.assertEqual(self.refused(set_item, self.shelf.list(), 0, 7), RANGE)

    def test_a_list_in_itself(self):
        parts = self.shelf.list(1)
        self.assertEqual(set_item(self.store, parts, 0, parts), parts)
        self.assertEqual(self.shelf.held(parts), [parts])

    def test_maps(self):
        table = self.shelf.map((1, "a"), (2, "b"))
        self.assertEqual(set_item(self.store, table, 1, "c"), "c")
        self.assertEqual(set_item(self.store, table, True, "d"), "d")
        self.assertEqual([(repr(key), value) for key, value in self.shelf.held(table)],
                         [("1", "c"), ("2", "b"), ("True", "d")])

    def test_kinds(self):
        parts = self.shelf.list(0, 0)
        table = self.shelf.map()
        for kind, i in self.values:
            self.assertEqual(self.refused(set_item, parts, i, 1), None if kind == "integer" else WRONG)
            is_key = kind in ("null", "boolean", "integer", "text")
            self.assertEqual(self.refused(set_item, table, i, 1), None if is_key else KEYS)

    def test_other_kinds(self):
        for kind, x in self.values:
            if kind not in ("list", "map"):
                for i in (0, "a", self.shelf.list()):
                    self.assertEqual(self.refused(set_item, x, i, 1), ("KindError", f"cannot index {kind}"))

    def test_texts_cannot_be_changed(self):
        self.assertEqual(self.refused(set_item, "abc", 9, 1), ("KindError", "cannot index text"))

    def test_size(self):
        table = self.shelf.map(*[(key, key) for key in range(999)])
        set_item(self.store, table, "last", 1)
        self.assertEqual(len(self.shelf.held(table)), 1000)
        self.assertEqual(self.refused(set_item, table, "more", 1), SIZE)
        self.assertEqual(self.refused(set_item, table, self.shelf.list(), 1), KEYS)
        self.assertEqual(set_item(self.store, table, "last", 2), 2)


class NewListsAndMapsTest(ShelfTest):
    def test_lists(self):
        values = [1, None]
        many = len(self.store.things)
        ref = make_list(self.store, values)
        values.append(3)
        self.assertEqual((ref, self.shelf.held(ref)), (Ref(many), [1, None]))
        self.assertIsInstance(self.store.at(ref), Parts)
        self.assertEqual(len(self.shelf.held(make_list(self.store, [0] * 1000))), 1000)
        self.assertEqual(self.refused(make_list, [0] * 1001), SIZE)

    def test_maps(self):
        pairs = [(1, "a"), ("x", "b"), (True, "c"), (1, "d"), (None, "e")]
        ref = make_map(self.store, pairs)
        self.assertEqual([(repr(key), value) for key, value in self.shelf.held(ref)],
                         [("1", "d"), ("'x'", "b"), ("True", "c"), ("None", "e")])
        self.assertIsInstance(self.store.at(ref), Table)
        self.assertEqual(self.shelf.held(make_map(self.store, [])), [])

    def test_wrong_keys(self):
        for kind, key in self.values:
            is_key = kind in ("null", "boolean", "integer", "text")
            self.assertEqual(self.refused(make_map, [(1, 1), (key, 2)]), None if is_key else KEYS)

    def test_size(self):
        pairs = [(key, key) for key in range(1000)]
        self.assertEqual(len(self.shelf.held(make_map(self.store, pairs))), 1000)
        self.assertEqual(self.refused(make_map, pairs + [("more", 1)]), SIZE)
        self.assertEqual(len(self.shelf.held(make_map(self.store, pairs + [(7, 1)] * 20))), 1000)

    def test_which_error_comes_first(self):
        pairs = [(key, key) for key in range(1000)]
        wrong = self.shelf.list()
        self.assertEqual(self.refused(make_map, pairs + [(wrong, 1)]), KEYS)
        self.assertEqual(self.refused(make_map, pairs + [("more", 1), (wrong, 1)]), SIZE)
        self.assertEqual(self.refused(make_map, pairs[:999] + [(wrong, 1), ("a", 1), ("b", 1)]), KEYS)


class FieldsTest(ShelfTest):
    def test_fields(self):
        instance = self.shelf.instance(self.shelf.kin(), a=1)
        many = len(self.store.things)
        self.assertEqual(get_field(self.store, instance, "a"), 1)
        self.assertEqual(set_field(self.store, instance, "b", "new"), "new")
        self.assertIs(set_field(self.store, instance, "a", None), None)
        self.assertEqual(list(self.store.at(instance).named.items()), [("a", None), ("b", "new")])
        self.assertIs(get_field(self.store, instance, "a"), None)
        self.assertEqual(len(self.store.things), many)

    def test_methods_along_classes(self):
        base = self.shelf.kin("A", None, m=self.shelf.closure(1, 1), n=self.shelf.closure(2, 1))
        last = self.shelf.kin("C", self.shelf.kin("B", base, n=self.shelf.closure(3, 1)))
        instance = self.shelf.instance(last)
        for name, number in (("m", 1), ("n", 3)):
            many = len(self.store.things)
            method = get_field(self.store, instance, name)
            self.assertEqual(method, Ref(many))
            bound = self.store.at(method)
            self.assertIsInstance(bound, Bound)
            self.assertEqual((bound.owner, self.store.at(bound.function).number), (instance, number))
        self.assertFalse(get_field(self.store, instance, "m") == get_field(self.store, instance, "m"))
        self.assertEqual(self.refused(get_field, instance, "k"), ("FieldError", "instance has no field k"))

    def test_a_field_comes_ahead_of_a_method(self):
        instance = self.shelf.instance(self.shelf.kin("A", None, m=self.shelf.closure(1, 1)), m=None)
        many = len(self.store.things)
        self.assertIs(get_field(self.store, instance, "m"), None)
        self.assertEqual(len(self.store.things), many)

    def test_other_kinds(self):
        for kind, x in self.values:
            if kind != "instance":
                expected = ("FieldError", f"{kind} has no field name")
                self.assertEqual(self.refused(get_field, x, "name"), expected)
                self.assertEqual(self.refused(set_field, x, "name", 1), expected)
        self.assertEqual(self.refused(get_field, self.shelf.list(), "length"),
                         ("FieldError", "list has no field length"))
        kin = self.shelf.kin("A", None, m=self.shelf.closure())
        self.assertEqual(self.refused(get_field, kin, "m"), ("FieldError", "class has no field m"))

    def test_size(self):
        named = {f"f{number}": number for number in range(999)}
        instance = self.shelf.instance(Ref(0), **named)
        set_field(self.store, instance, "last", 1)
        self.assertEqual(len(self.store.at(instance).named), 1000)
        self.assertEqual(self.refused(set_field, instance, "more", 1), SIZE)
        self.assertEqual(set_field(self.store, instance, "last", 2), 2)
        self.assertEqual(set_field(self.store, instance, "f0", 3), 3)


class ClassesTest(ShelfTest):
    def test_parents(self):
        for parent in (None, Ref(0), self.shelf.kin()):
            many = len(self.store.things)
            ref = make_class(self.store, "New", parent)
            kin = self.store.at(ref)
            self.assertEqual((ref, kin.name, kin.parent, kin.methods), (Ref(many), "New", parent, {}))
            self.assertIsInstance(kin, Kin)

    def test_wrong_parents(self):
        for kind, parent in self.values:
            expected = None if kind in ("class", "null") else ("KindError", "the parent is not a class")
            self.assertEqual(self.refused(make_class, "New", parent), expected)


class IteratorsTest(ShelfTest):
    def rest(self, ref):
        found = []
        while True:
            given = next_of(self.store, ref)
            self.assertIsInstance(given, list)
            if not given:
                self.assertEqual(next_of(self.store, ref), [])
                return found
            found.extend(given)

    def test_what_is_gone_through(self):
        cases = [(self.shelf.list(1, None, "a"), [1, None, "a"]), (self.shelf.list(), []), ("a\nb", ["a", "\n", "b"]),
                 ("", []), (self.shelf.map((2, "x"), ("k", "y"), (None, "z")), [2, "k", None]), (self.shelf.map(), [])]
        for x, held in cases:
            many = len(self.store.things)
            ref = make_cursor(self.store, x)
            self.assertEqual(ref, Ref(many))
            self.assertIsInstance(self.store.at(ref), Cursor)
            self.assertEqual(self.rest(ref), held)

    def test_other_kinds(self):
        for kind, x in self.values:
            expected = None if kind in ("list", "text", "map") else ("KindError", f"cannot go through {kind}")
            self.assertEqual(self.refused(make_cursor, x), expected)

    def test_changes_while_it_goes(self):
        parts = self.shelf.list(1, 2)
        table = self.shelf.map((1, "a"), (2, "b"))
        through_list, through_map = make_cursor(self.store, parts), make_cursor(self.store, table)
        self.store.at(parts).held.append(3)
        self.store.at(parts).held[0] = 9
        set_item(self.store, table, 3, "c")
        self.store.at(table).take_out(1)
        self.assertEqual(next_of(self.store, through_list), [1])
        self.store.at(parts).held.clear()
        self.assertEqual(self.rest(through_list), [2])
        self.assertEqual(self.rest(through_map), [1, 2])
        self.assertEqual(self.shelf.held(parts), [])

    def test_two_of_one_list(self):
        parts = self.shelf.list(1, 2)
        one, other = make_cursor(self.store, parts), make_cursor(self.store, parts)
        self.assertEqual(next_of(self.store, one), [1])
        self.assertEqual(next_of(self.store, other), [1])
        self.assertEqual(self.store.at(one).rest, [2])

    def test_no_value_and_null(self):
        ref = make_cursor(self.store, self.shelf.list(None, None))
        self.assertEqual([next_of(self.store, ref) for _ in range(3)], [[None], [None], []])


class ErrorsTest(ShelfTest):
    def test_the_value_of_an_error(self):
        before = snapshot(self.store)
        ref = make_error(self.store, ScriptError("KeyError", "no such key"))
        instance = self.store.at(ref)
        self.assertIsInstance(instance, Instance)
        self.assertEqual(instance.owner, Ref(0))
        self.assertEqual(list(instance.named.items()), [("kind", "KeyError"), ("message", "no such key")])
        self.assertEqual(ref, Ref(len(before[0])))
        self.store.things.pop()
        self.assertEqual(snapshot(self.store), before)

    def test_a_long_message(self):
        ref = make_error(self.store, ScriptError("FieldError", "x" * 3000))
        self.assertEqual(self.store.at(ref).named["message"], "x" * 3000)

    def test_two_errors_are_two_instances(self):
        error = ScriptError("A", "b")
        self.assertFalse(make_error(self.store, error) == make_error(self.store, error))

    def test_functions_are_no_instances(self):
        self.assertEqual(self.refused(get_field, Builtin("len"), "kind"), ("FieldError", "function has no field kind"))


if __name__ == "__main__":
    unittest.main()
