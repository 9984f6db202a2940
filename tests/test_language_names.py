"""The names of the language and of the built-in functions: points [19] and [34]."""

import unittest

from livequill.names.language import FUNCTION_NAMES, is_of_language
from livequill.values.refs import BUILTINS

NAMES = (
    "print", "read", "str", "int", "len", "range", "kind", "abs", "min", "max", "pow", "gcd", "sqrt", "base",
    "parse", "char", "assert", "copy", "equals",
)


class LanguageNamesTest(unittest.TestCase):
    def test_function_names(self):
        self.assertEqual(FUNCTION_NAMES, NAMES)
        self.assertIsInstance(FUNCTION_NAMES, tuple)

    def test_builtins(self):
        self.assertEqual(BUILTINS, NAMES)
        self.assertIsInstance(BUILTINS, tuple)

    def test_names_of_the_language(self):
        for name in (*NAMES, "Error"):
            with self.subTest(name):
                self.assertIs(is_of_language(name), True)

    def test_other_names(self):
        for name in ("", "error", "Error1", "Print", "prints", "prin", "x", "this", "super", "let", "ERROR", "copy_",
                     "_copy", "equal", "Errors", "push"):
            with self.subTest(name):
                self.assertIs(is_of_language(name), False)


if __name__ == "__main__":
    unittest.main()
