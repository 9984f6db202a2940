"""The written form of values and what is shown: point [38]."""

import unittest

from livequill.values.refs import BUILTINS, Builtin, Ref
from livequill.values.things import Bound, Cursor, Variable
from livequill.values.written import show, text_of, write_value
from stores import MOST, Shelf

PLENTY = 10 ** 6


class WrittenTest(unittest.TestCase):
    def setUp(self):
        self.shelf = Shelf()
        self.store = self.shelf.store

    def check(self, value, form):
        """Checks the written form, also where it is cut."""
        self.assertEqual(write_value(self.store, value, PLENTY), form)
        for most in (0, 1, len(form) // 2, len(form) - 2, len(form) - 1, len(form), len(form) + 1):
            if most >= 0:
                self.assertEqual(write_value(self.store, value, most), form[:most + 1], most)

    def test_words_and_integers(self):
        for value, form in ((None, "null"), (True, "true"), (False, "false"), (0, "0"), (1, "1"), (-12, "-12"),
                            (MOST, "9" * 300), (-MOST, "-" + "9" * 300)):
            self.check(value, form)

    def test_texts(self):
        for value, form in (("", "\"\""), ("abc", "\"abc\""), ("a\"b", "\"a\\\"b\""), ("\\", "\"\\\\\""),
                            ("\n", "\"\\n\""), ("\\n", "\"\\\\n\""), ("\"\n\\", "\"\\\"\\n\\\\\""),
                            ("\"" * 1000, "\"" + "\\\"" * 1000 + "\""), ("x" * 1000, "\"" + "x" * 1000 + "\""),
                            ("{}[]:,'", "\"{}[]:,'\"")):
            self.check(value, form)

    def test_lists_and_maps(self):
        make, table = self.shelf.list, self.shelf.map
        self.check(make(), "[]")
        self.check(make(1), "[1]")
        self.check(make(1, "a", None), "[1, \"a\", null]")
        self.check(table(), "{}")
        self.check(table((1, 2)), "{1: 2}")
        self.check(table(("a", True), (True, "a"), (None, -1)), "{\"a\": true, true: \"a\", null: -1}")
        self.check(make(make(), table(), make(make(1))), "[[], {}, [[1]]]")
        self.check(table((1, make(2)), (3, table((4, 5)))), "{1: [2], 3: {4: 5}}")

    def test_instances_classes_and_functions(self):
        kin = self.shelf.kin("Pear")
        self.check(kin, "<class Pear>")
        self.check(self.shelf.instance(kin, x=1), "<Pear>")
        self.check(Ref(0), "<class Error>")
        self.check(self.shelf.instance(Ref(0), kind="a", message="b"), "<Error>")
        self.check(self.shelf.kin("X" * 3000), "<class " + "X" * 3000 + ">")
        self.check(self.shelf.instance(self.shelf.kin("X" * 3000)), "<" + "X" * 3000 + ">")
        functions = [Builtin(name) for name in BUILTINS]
        function = self.shelf.closure()
        functions += [function, self.store.make(Bound(kin, function)), self.store.make(Variable(1)),
                      self.store.make(Cursor([1]))]
        for value in functions:
            self.check(value, "<function>")
        self.check(self.shelf.list(function, kin, self.shelf.instance(kin)), "[<function>, <class Pear>, <Pear>]")

    def test_depth(self):
        for around in range(13):
            for inner, form, dots in ((self.shelf.list(7), "[7]", "[...]"), (self.shelf.list(), "[]", "[...]"),
                                      (self.shelf.map((1, 2)), "{1: 2}", "{...}"), (self.shelf.map(), "{}", "{...}"),
                                      (5, "5", "5"), ("a", "\"a\"", "\"a\"")):
                value = inner
                for _ in range(around):
                    value = self.shelf.list(value)
                written = form if around <= 9 else dots
                # What is around more than 10 others is not to be seen.
                expected = "[" * around + written + "]" * around
                if around > 10:
                    expected = "[" * 10 + "[...]" + "]" * 10
                self.check(value, expected)

    def test_depth_in_maps(self):
        for around in (9, 10, 11):
            value = self.shelf.map(("k", self.shelf.list()))
            for at in range(around - 1):
                value = self.shelf.map((at, value)) if at % 2 else self.shelf.list(value)
            found = write_value(self.store, value, PLENTY)
            self.assertEqual("..." in found, around >= 10)

    def test_circles(self):
        one = self.shelf.list(1)
        self.store.at(one).held.append(one)
        self.check(one, "[1, [...]]")
        table = self.shelf.map()
        self.store.at(table).put("me", table)
        self.check(table, "{\"me\": {...}}")
        outer = self.shelf.list()
        self.store.at(outer).held.append(self.shelf.map((1, outer), (2, one)))
        self.check(outer, "[{1: [...], 2: [1, [...]]}]")

    def test_twice_is_not_within_itself(self):
        inner = self.shelf.list(1)
        self.check(self.shelf.list(inner, inner, self.shelf.list(inner)), "[[1], [1], [[1]]]")

    def test_fields_are_not_written(self):
        instance = self.shelf.instance(self.shelf.kin("A"))
        self.store.at(instance).named["x"] = self.shelf.list(instance)
        self.check(self.shelf.list(instance), "[<A>]")

    def test_a_form_that_would_have_no_end(self):
        value = self.shelf.list("seed")
        for _ in range(40):
            value = self.shelf.list(*[value] * 1000)
        for most in (0, 1, 50, 1000):
            found = write_value(self.store, value, most)
            self.assertEqual(len(found), most + 1)
            self.assertEqual(found[:11], ("[" * 11)[:most + 1])
        self.assertEqual(len(show(self.store, value)), 103)

    def test_text_of(self):
        self.assertEqual(text_of(self.store, "a\"b", 5), "a\"b")
        self.assertEqual(text_of(self.store, "x" * 1000, 5), "x" * 1000)
        self.assertEqual(text_of(self.store, 12345, 3), "1234")
        self.assertEqual(text_of(self.store, 12345, 5), "12345")
        self.assertEqual(text_of(self.store, self.shelf.list("a"), 10), "[\"a\"]")

    def test_show(self):
        self.assertEqual(show(self.store, None), "null")
        self.assertEqual(show(self.store, "a"), "\"a\"")
        self.assertEqual(show(self.store, "x" * 98), "\"" + "x" * 98 + "\"")
        self.assertEqual(show(self.store, "x" * 99), "\"" + "x" * 99 + "...")
        self.assertEqual(show(self.store, "x" * 100), "\"" + "x" * 99 + "...")
        self.assertEqual(show(self.store, 10 ** 99), str(10 ** 99))
        self.assertEqual(show(self.store, -10 ** 99), "-1" + "0" * 98 + "...")
        self.assertEqual(show(self.store, "\n" * 49), "\"" + "\\n" * 49 + "\"")
        self.assertEqual(show(self.store, "\n" * 50), "\"" + "\\n" * 49 + "\\...")
        self.assertEqual(show(self.store, self.shelf.list(*[1] * 33)), "[" + "1, " * 32 + "1]")
        self.assertEqual(show(self.store, self.shelf.list(*[1] * 34)), "[" + "1, " * 33 + "...")


if __name__ == "__main__":
    unittest.main()
