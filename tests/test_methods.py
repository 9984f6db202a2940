"""The methods of lists, texts and maps: points [35], [36] and [37]."""

import unittest

from livequill.values.calls import call_method
from livequill.values.refs import Builtin, Ref
from livequill.values.things import Parts, Table
from stores import MOST, NO_KEY, OVERFLOW, RANGE, SIZE, WRONG, Shelf, error_of

EMPTY = ("ValueError", "the text is empty")
NEGATIVE = ("ValueError", "the number is negative")

LISTS = {
    "push": ("any",), "insert": ("integer", "any"), "pop": (), "remove": ("integer",), "length": (),
    "slice": ("integer", "integer"), "join": ("text",), "contains": ("any",), "reverse": (), "sort": (),
    "extend": ("list",), "find": ("any",), "count": ("any",), "sum": (), "copy": (), "zip": ("list",),
}
TEXTS = {
    "length": (), "upper": (), "lower": (), "slice": ("integer", "integer"), "split": ("text",), "find": ("text",),
    "replace": ("text", "text"), "trim": (), "startsWith": ("text",), "endsWith": ("text",), "contains": ("text",),
    "repeat": ("integer",), "reverse": (), "lines": (), "code": ("integer",),
}
MAPS = {
    "has": ("null boolean integer text",), "remove": ("null boolean integer text",), "keys": (), "values": (),
    "items": (), "get": ("null boolean integer text", "any"), "merge": ("map",), "copy": (), "clear": (),
    "length": (),
}


class MethodTest(unittest.TestCase):
    def setUp(self):
        self.shelf = Shelf()
        self.store = self.shelf.store
        self.values = self.shelf.of_each_kind()
        self.fitting = {"any": None, "integer": 0, "text": "t", "list": self.shelf.list(), "map": self.shelf.map()}

    def call(self, x, name, *values):
        return call_method(self.store, x, name, list(values))

    def refused(self, x, name, *values):
        return error_of(self.store, lambda store: call_method(store, x, name, list(values)))

    def check(self, x, name, cases):
        for *values, result in cases:
            with self.subTest((x, name, values)):
                found = self.call(x, name, *values)
                self.assertEqual(found, result)
                self.assertIs(type(found), type(result))

    def check_refused(self, x, name, error, cases):
        for values in cases:
            with self.subTest((x, name, values)):
                self.assertEqual(self.refused(x, name, *values), error)

    def check_new(self, x, name, held, *values):
        """Checks that a call makes one object, which holds this."""
        many = len(self.store.things)
        found = self.call(x, name, *values)
        self.assertEqual(found, Ref(many))
        self.assertEqual(self.shelf.held(found), held)
        self.assertEqual(len(self.store.things), many + 1)

    def check_arguments(self, make, methods):
        """Checks each number and each kind of arguments of these methods of what is made."""
        for name, kinds in methods.items():
            for many in range(5):
                if many != len(kinds):
                    wrong = [Builtin("len")] * many
                    self.assertEqual(self.refused(make(), name, *wrong),
                                     ("ArityError", f"expected {len(kinds)} arguments, got {many}"))
            for at, wanted in enumerate(kinds):
                for kind, value in self.values:
                    values = [self.fitting[other.split()[0]] if other.split()[0] in self.fitting else 1
                              for other in kinds]
                    values[at] = value
                    error = self.refused(make(), name, *values)
                    if wanted != "any" and kind not in wanted.split():
                        self.assertEqual(error, WRONG, (name, values))
                    else:
                        self.assertNotEqual(error, WRONG, (name, values))


class WhichMethodsTest(MethodTest):
    def test_methods_that_are_not_there(self):
        names = ["", "x", "init", "append", "size", *LISTS, *TEXTS, *MAPS]
        for kind, value in self.values:
            methods = {"list": LISTS, "text": TEXTS, "map": MAPS}.get(kind, {})
            for name in names:
                error = self.refused(value, name, *[Builtin("len")] * 9)
                if name in methods:
                    self.assertEqual(error[0], "ArityError")
                else:
                    self.assertEqual(error, ("FieldError", f"{kind} has no field {name}"))

    def test_lists(self):
        self.check_arguments(lambda: self.shelf.list(1, 2, 3), LISTS)

    def test_texts(self):
        self.check_arguments(lambda: "abc", TEXTS)

    def test_maps(self):
        self.check_arguments(lambda: self.shelf.map((1, 2), ("t", 3)), MAPS)

    def test_arguments_are_not_changed(self):
        values = [0, "x"]
        call_method(self.store, self.shelf.list(1), "insert", values)
        self.assertEqual(values, [0, "x"])


class ListsTest(MethodTest):
    def parts(self, *held):
        return self.shelf.list(*held)

    def after(self, held, name, *values):
        """The result of a method and the parts of the list after it."""
        ref = self.shelf.list(*held)
        return self.call(ref, name, *values), self.shelf.held(ref)

    def test_push_and_insert(self):
        self.assertEqual(self.after([1], "push", "x"), (None, [1, "x"]))
        self.assertEqual(self.after([], "push", None), (None, [None]))
        self.assertEqual(self.after([], "insert", 0, 5), (None, [5]))
        for i in range(4):
            self.assertEqual(self.after("abc", "insert", i, 5), (None, [*"abc"[:i], 5, *"abc"[i:]]))
        self.check_refused(self.parts(1, 2), "insert", RANGE, [(-2, 0), (-1, 0), (3, 0), (4, 0), (MOST, 0)])

    def test_pop_and_remove(self):
        self.assertEqual(self.after([1, 2], "pop"), (2, [1]))
        self.assertEqual(self.after([None], "pop"), (None, []))
        self.assertEqual(self.refused(self.parts(), "pop"), RANGE)
        for i in range(3):
            self.assertEqual(self.after("abc", "remove", i), ("abc"[i], [*"abc"[:i], *"abc"[i + 1:]]))
        self.check_refused(self.parts(1, 2), "remove", RANGE, [(-2,), (-1,), (2,), (3,), (-MOST,)])
        self.assertEqual(self.refused(self.parts(), "remove", 0), RANGE)

    def test_length(self):
        self.check(self.parts(), "length", [(0,)])
        self.check(self.parts(1, 1), "length", [(2,)])

    def test_slice(self):
        for i in range(-2, 6):
            for j in range(-2, 6):
                ref = self.parts(1, 2, 3)
                if 0 <= i <= j <= 3:
                    self.check_new(ref, "slice", [1, 2, 3][i:j], i, j)
                else:
                    self.assertEqual(self.refused(ref, "slice", i, j), RANGE)
                self.assertEqual(self.shelf.held(ref), [1, 2, 3])
        self.check_refused(self.parts(), "slice", RANGE, [(0, 1), (MOST, MOST), (0, MOST), (-MOST, 0)])

    def test_join(self):
        self.check(self.parts(), "join", [("x", "")])
        self.check(self.parts("a"), "join", [("x", "a")])
        self.check(self.parts("a", 1, None, "\""), "join", [(", ", "a, 1, null, \""), ("", "a1null\"")])
        self.check(self.parts(self.parts("a"), ""), "join", [("-", "[\"a\"]-")])
        self.check(self.parts(*[""] * 1000), "join", [("", ""), ("x", "x" * 999)])
        self.check(self.parts("a" * 500, "b" * 499), "join", [("-", "a" * 500 + "-" + "b" * 499)])
        self.check_refused(self.parts("a" * 500, "b" * 499), "join", SIZE, [("--",)])
        self.check_refused(self.parts("a" * 1000, ""), "join", SIZE, [("x",)])
        self.check_refused(self.parts(self.parts("a" * 997)), "join", SIZE, [("",)])

    def test_contains_find_and_count(self):
        held = [0, 1, True, "1", None, 1, False, "", Builtin("len")]
        ref = self.parts(*held, self.store.make(Parts([1])))
        cases = [(0, 0, 1), (1, 1, 2), (True, 2, 1), ("1", 3, 1), (None, 4, 1), (False, 6, 1), ("", 7, 1),
                 (Builtin("len"), 8, 1), (2, None, 0), ("a", None, 0), (self.parts(1), None, 0)]
        for value, first, many in cases:
            self.check(ref, "find", [(value, first)])
            self.check(ref, "contains", [(value, first is not None)])
            self.check(ref, "count", [(value, many)])
        inner = self.shelf.held(ref)[9]
        self.check(ref, "find", [(inner, 9)])
        self.assertIs(self.call(self.parts(), "find", 1), None)

    def test_reverse_and_sort(self):
        self.assertEqual(self.after([1, "a", None], "reverse"), (None, [None, "a", 1]))
        self.assertEqual(self.after([], "reverse"), (None, []))
        self.assertEqual(self.after([3, -1, MOST, 2, 2], "sort"), (None, [-1, 2, 2, 3, MOST]))
        self.assertEqual(self.after(["b", "a", "B", "", "ab"], "sort"), (None, ["", "B", "a", "ab", "b"]))
        self.assertEqual(self.after([], "sort"), (None, []))
        for held in ([1, "a"], [True], [1, False], [None], [self.parts()], ["a", None], [Builtin("len")]):
            self.assertEqual(self.refused(self.parts(*held), "sort"), WRONG)

    def test_sorting_keeps_the_list(self):
        ref = self.parts(2, 1)
        again = self.parts(ref)
        for name in ("sort", "reverse"):
            self.call(ref, name)
        self.assertEqual((self.shelf.held(ref), self.shelf.held(again)), ([2, 1], [ref]))

    def test_extend(self):
        other = self.parts("x", "y")
        self.assertEqual(self.after([1], "extend", other), (None, [1, "x", "y"]))
        self.assertEqual(self.shelf.held(other), ["x", "y"])
        ref = self.parts(1, 2)
        self.assertIs(self.call(ref, "extend", ref), None)
        self.assertEqual(self.shelf.held(ref), [1, 2, 1, 2])
        self.call(ref, "extend", other)
        self.call(ref, "push", 3)
        self.assertEqual(self.shelf.held(other), ["x", "y"])

    def test_sum(self):
        self.check(self.parts(), "sum", [(0,)])
        self.check(self.parts(1, -2, 4), "sum", [(3,)])
        self.check(self.parts(MOST, MOST, -MOST), "sum", [(MOST,)])
        self.check_refused(self.parts(MOST, 1), "sum", OVERFLOW, [()])
        for held in ([1, "a"], ["a"], [True], [None, 1], [MOST, MOST, "a"]):
            self.assertEqual(self.refused(self.parts(*held), "sum"), WRONG)

    def test_copy(self):
        inner = self.parts()
        ref = self.parts(1, inner)
        self.check_new(ref, "copy", [1, inner])
        copy = self.call(ref, "copy")
        self.call(copy, "push", 5)
        self.assertEqual(self.shelf.held(ref), [1, inner])

    def test_zip(self):
        one, other = self.parts(1, 2, 3), self.parts("a", None)
        for x, y, pairs in ((one, other, [[1, "a"], [2, None]]), (other, one, [["a", 1], [None, 2]]),
                            (one, one, [[1, 1], [2, 2], [3, 3]]), (one, self.parts(), []), (self.parts(), one, [])):
            many = len(self.store.things)
            found = self.call(x, "zip", y)
            self.assertEqual(found, Ref(many + len(pairs)))
            self.assertEqual(self.shelf.held(found), [Ref(many + at) for at in range(len(pairs))])
            self.assertEqual([self.shelf.held(ref) for ref in self.shelf.held(found)], pairs)
            self.assertEqual(len(self.store.things), many + len(pairs) + 1)
            self.assertTrue(all(isinstance(self.store.at(ref), Parts) for ref in [found, *self.shelf.held(found)]))

    def test_size(self):
        full = self.parts(*range(1000))
        self.check_refused(full, "push", SIZE, [(1,)])
        self.check_refused(full, "insert", SIZE, [(0, 1), (1000, 1)])
        self.check_refused(full, "insert", RANGE, [(1001, 1), (-1, 1)])
        self.check_refused(full, "insert", WRONG, [(True, 1)])
        self.check_refused(full, "extend", SIZE, [(full,), (self.parts(1),)])
        self.call(full, "extend", self.parts())
        self.assertEqual(len(self.shelf.held(self.call(full, "copy"))), 1000)
        self.assertEqual(len(self.shelf.held(self.call(full, "slice", 0, 1000))), 1000)
        self.assertEqual(len(self.shelf.held(self.call(full, "zip", full))), 1000)
        self.call(full, "pop")
        self.call(full, "insert", 0, "first")
        self.assertEqual(self.call(full, "remove", 0), "first")
        self.call(full, "push", "last")
        self.assertEqual(self.shelf.held(full)[999], "last")


class TextsTest(MethodTest):
    def test_length_and_letters(self):
        self.check("", "length", [(0,)])
        self.check("a\nb", "length", [(3,)])
        sign = "az AZ_09[]@`{\n"
        self.check(sign, "upper", [("AZ AZ_09[]@`{\n",)])
        self.check(sign, "lower", [("az az_09[]@`{\n",)])

    def test_slice(self):
        for i in range(-2, 6):
            for j in range(-2, 6):
                if 0 <= i <= j <= 3:
                    self.check("abc", "slice", [(i, j, "abc"[i:j])])
                else:
                    self.assertEqual(self.refused("abc", "slice", i, j), RANGE)
        self.check_refused("abc", "slice", RANGE, [(MOST, MOST), (0, MOST), (-MOST, 0), (2, 1)])
        self.check("", "slice", [(0, 0, "")])

    def test_split(self):
        cases = [("a,b,c", ",", ["a", "b", "c"]), ("abc", ",", ["abc"]), ("", ",", [""]), (",", ",", ["", ""]),
                 ("aaa", "aa", ["", "a"]), ("aaaa", "aa", ["", "", ""]), ("xabababx", "aba", ["x", "babx"]), ("xabaabax", "aba", ["x", "", "x"]),
                 ("a\nb", "\n", ["a", "b"]), ("abc", "abc", ["", ""]), ("ab", "abc", ["ab"])]
        for text, between, held in cases:
            self.check_new(text, "split", held, between)
        self.check_refused("abc", "split", EMPTY, [("",)])
        self.check_refused("", "split", EMPTY, [("",)])

    def test_lines(self):
        for text, held in (("", [""]), ("a", ["a"]), ("a\nb", ["a", "b"]), ("\n", ["", ""]), ("a\n\n", ["a", "", ""])):
            self.check_new(text, "lines", held)

    def test_many_pieces(self):
        self.assertEqual(len(self.shelf.held(self.call("," * 999, "split", ","))), 1000)
        self.check_refused("," * 1000, "split", SIZE, [(",",)])
        self.assertEqual(len(self.shelf.held(self.call("\n" * 999, "lines"))), 1000)
        self.check_refused("\n" * 1000, "lines", SIZE, [()])

    def test_find_and_contains(self):
        self.check("banana", "find", [("b", 0), ("an", 1), ("na", 2), ("a", 1), ("", 0), ("banana", 0), ("x", None),
                                      ("bananas", None), ("B", None)])
        self.check("banana", "contains", [("b", True), ("nan", True), ("", True), ("x", False), ("aa", False)])
        self.check("", "find", [("", 0), ("a", None)])
        self.check("", "contains", [("", True), ("a", False)])
        self.check("banana", "startsWith", [("ban", True), ("", True), ("an", False), ("bananas", False)])
        self.check("banana", "endsWith", [("ana", True), ("", True), ("ban", False), ("xbanana", False)])

    def test_replace(self):
        self.check("banana", "replace", [("a", "o", "bonono"), ("an", "", "ba"), ("x", "y", "banana"),
                                         ("ana", "x", "bxna"), ("banana", "", ""), ("a", "aa", "baanaanaa")])
        self.check("", "replace", [("a", "b", "")])
        self.check("aaa", "replace", [("aa", "b", "ba")])
        self.check_refused("banana", "replace", EMPTY, [("", "x"), ("", "")])
        self.check("a" * 1000, "replace", [("aa", "bb", "b" * 1000), ("b", "c" * 1000, "a" * 1000)])
        self.check_refused("a" * 1000, "replace", SIZE, [("a", "bb"), ("a" * 1000, "b" * 999 + "cc")])
        self.check("ab" * 250, "replace", [("a", "ccc", "cccb" * 250)])
        self.check_refused("ab" * 250, "replace", SIZE, [("a", "cccc")])
        self.check_refused("a" * 1000, "replace", EMPTY, [("", "b" * 1000)])

    def test_trim(self):
        for text, result in (("", ""), ("  \n ", ""), (" a ", "a"), ("qaq", "qaq"), ("\n a b \n\n", "a b"), ("a", "a"),
                             ("\ta\t", "\ta\t"), ("\r a\u00a0", "\r a\u00a0")):
            self.check(text, "trim", [(result,)])

    def test_repeat(self):
        self.check("ab", "repeat", [(0, ""), (1, "ab"), (3, "ababab"), (500, "ab" * 500)])
        self.check("", "repeat", [(0, ""), (5, ""), (MOST, "")])
        self.check_refused("ab", "repeat", SIZE, [(501,), (MOST,)])
        self.check_refused("ab", "repeat", NEGATIVE, [(-1,), (-MOST,)])
        self.check_refused("", "repeat", NEGATIVE, [(-1,)])

    def test_reverse(self):
        for text in ("", "a", "ab\n", "abc" * 333):
            self.check(text, "reverse", [("".join(reversed(text)),)])

    def test_code(self):
        self.check("a\nZ ", "code", [(0, 97), (1, 10), (2, 90), (3, 32)])
        self.check_refused("ab", "code", RANGE, [(-2,), (-1,), (2,), (3,), (MOST,)])
        self.check_refused("", "code", RANGE, [(0,)])


class MapsTest(MethodTest):
    def setUp(self):
        MethodTest.setUp(self)
        self.pairs = [(1, "a"), (True, "b"), ("1", "c"), (None, "d"), (0, "e"), (False, "f"), ("", "g")]
        self.table = self.shelf.map(*self.pairs)

    def told(self, ref):
        return [(repr(key), value) for key, value in self.shelf.held(ref)]

    def test_has_and_get(self):
        for key, value in self.pairs:
            self.check(self.table, "has", [(key, True)])
            self.check(self.table, "get", [(key, "other", value)])
        for key in (2, -1, "a", "null", "true"):
            self.check(self.table, "has", [(key, False)])
            self.check(self.table, "get", [(key, "other", "other"), (key, None, None)])
        self.check(self.shelf.map((1, "a")), "has", [(True, False), ("1", False), (None, False), (1, True)])

    def test_remove(self):
        for at, (key, value) in enumerate(self.pairs):
            table = self.shelf.map(*self.pairs)
            self.assertEqual(self.call(table, "remove", key), value)
            left = self.pairs[:at] + self.pairs[at + 1:]
            self.assertEqual(self.told(table), [(repr(other), held) for other, held in left])
            self.assertEqual(self.refused(table, "remove", key), NO_KEY)
        self.check_refused(self.shelf.map(), "remove", NO_KEY, [(1,), (None,)])

    def test_order_after_removing_and_putting(self):
        table = self.shelf.map((1, "a"), (2, "b"), (3, "c"))
        self.call(table, "remove", 1)
        self.call(table, "merge", self.shelf.map((2, "d"), (1, "e")))
        self.assertEqual(self.shelf.held(table), [(2, "d"), (3, "c"), (1, "e")])
        self.check_new(table, "keys", [2, 3, 1])
        self.check_new(table, "values", ["d", "c", "e"])

    def test_keys_and_values(self):
        many = len(self.store.things)
        keys = self.call(self.table, "keys")
        self.assertEqual([repr(key) for key in self.shelf.held(keys)], [repr(key) for key, _ in self.pairs])
        self.assertEqual(self.shelf.held(self.call(self.table, "values")), [value for _, value in self.pairs])
        self.assertEqual(len(self.store.things), many + 2)
        for name in ("keys", "values", "items"):
            self.check_new(self.shelf.map(), name, [])

    def test_items(self):
        many = len(self.store.things)
        found = self.call(self.table, "items")
        self.assertEqual(found, Ref(many + 7))
        self.assertEqual(self.shelf.held(found), [Ref(many + at) for at in range(7)])
        held = [self.shelf.held(ref) for ref in self.shelf.held(found)]
        self.assertEqual(repr(held), repr([[key, value] for key, value in self.pairs]))
        self.assertEqual(len(self.store.things), many + 8)

    def test_merge(self):
        table = self.shelf.map((1, "a"), (2, "b"))
        other = self.shelf.map((3, "c"), (1, "d"), (True, "e"))
        self.assertIs(self.call(table, "merge", other), None)
        self.assertEqual(self.told(table), [("1", "d"), ("2", "b"), ("3", "c"), ("True", "e")])
        self.assertEqual(self.told(other), [("3", "c"), ("1", "d"), ("True", "e")])
        self.assertIs(self.call(table, "merge", table), None)
        self.assertEqual(self.told(table), [("1", "d"), ("2", "b"), ("3", "c"), ("True", "e")])

    def test_size(self):
        full = self.shelf.map(*[(key, key) for key in range(1000)])
        self.check_refused(full, "merge", SIZE, [(self.shelf.map(("x", 1)),), (self.shelf.map((5, 0), (True, 1)),)])
        self.call(full, "merge", self.shelf.map((5, "new")))
        self.assertEqual(self.shelf.held(full)[5], (5, "new"))
        self.call(full, "merge", full)
        less = self.shelf.map(*[(key, key) for key in range(999)])
        self.call(less, "merge", self.shelf.map(("x", 1), (3, 3)))
        self.assertEqual(self.call(less, "length"), 1000)
        for name in ("keys", "values", "items", "copy"):
            self.assertEqual(len(self.shelf.held(self.call(full, name))), 1000)

    def test_copy_and_clear(self):
        copy = self.call(self.table, "copy")
        self.assertIsInstance(self.store.at(copy), Table)
        self.assertEqual(self.told(copy), self.told(self.table))
        self.assertIs(self.call(self.table, "clear"), None)
        self.assertEqual((self.shelf.held(self.table), len(self.shelf.held(copy))), ([], 7))
        self.check(self.table, "length", [(0,)])
        self.check(copy, "length", [(7,)])
        self.assertIs(self.call(self.table, "clear"), None)


if __name__ == "__main__":
    unittest.main()
