import unittest

from helpers import unmarked
from livequill.text.tokens import tokens_of

WORDS = (
    "let fun class extends if else while for in break continue return throw try catch "
    "and or not is mod true false null this super"
).split()


class TokensTest(unittest.TestCase):
    def check(self, text, *tokens):
        self.assertEqual(tokens_of(text), [*tokens, ("end", len(text), None)])

    def check_fault(self, marked, message, *before):
        """The text has these tokens, then the fault at its mark, and nothing behind it."""
        text, (offset,) = unmarked(marked)
        self.assertEqual(tokens_of(text), [*before, ("fault", offset, message)])


class GapsTest(TokensTest):
    def test_end_is_at_the_length(self):
        self.check("")
        self.check(" \n\n  ")
        self.assertEqual(tokens_of("ab \n"), [("name", 0, "ab"), ("end", 4, None)])

    def test_blanks_and_newlines_separate(self):
        self.check("a b\nc", ("name", 0, "a"), ("name", 2, "b"), ("name", 4, "c"))

    def test_other_white_space_is_a_fault(self):
        for sign in "\t\r\x0b\x0c\u00a0\u2028":
            with self.subTest(sign):
                self.check_fault(f"a @{sign} b", "this character is not allowed", ("name", 0, "a"))

    def test_comments(self):
        self.check("// a")
        self.check("//")
        self.check("a// \u00e9 % \t \" \\ //\nb", ("name", 0, "a"), ("name", 17, "b"))
        self.check("a // x\n// y\n  b // %", ("name", 0, "a"), ("name", 14, "b"))

    def test_a_comment_ends_at_a_newline_alone(self):
        self.check("// a\rb\u2028c")

    def test_one_slash_is_a_sign(self):
        self.check("a / /b", ("name", 0, "a"), ("sign", 2, "/"), ("sign", 4, "/"), ("name", 5, "b"))


class NamesTest(TokensTest):
    def test_words(self):
        for word in WORDS:
            with self.subTest(word):
                self.check(word, ("word", 0, word))
                self.check(word + "s", ("name", 0, word + "s"))
                self.check("_" + word, ("name", 0, "_" + word))
                self.check(word.upper(), ("name", 0, word.upper()))

    def test_names(self):
        for name in ("a", "Z", "_", "__", "aZ_09", "x1y2", "print", "Error"):
            with self.subTest(name):
                self.check(name, ("name", 0, name))

    def test_longest_run(self):
        self.check("letx in2", ("name", 0, "letx"), ("name", 5, "in2"))

    def test_other_letters_are_faults(self):
        self.check_fault("a@\u00e9", "this character is not allowed", ("name", 0, "a"))
        self.check_fault("@\u0416", "this character is not allowed")


class NumbersTest(TokensTest):
    def test_values(self):
        self.check("0", ("number", 0, 0))
        self.check("12 007", ("number", 0, 12), ("number", 3, 7))
        self.check("000", ("number", 0, 0))

    def test_a_name_ends_a_number(self):
        self.check("1a", ("number", 0, 1), ("name", 1, "a"))
        self.check("1.5", ("number", 0, 1), ("sign", 1, "."), ("number", 2, 5))
        self.check("-1", ("sign", 0, "-"), ("number", 1, 1))

    def test_other_digits_are_faults(self):
        self.check_fault("1@\u0662", "this character is not allowed", ("number", 0, 1))
        self.check_fault("@\u00b2", "this character is not allowed")

    def test_bound(self):
        self.check("9" * 300, ("number", 0, 10 ** 300 - 1))
        self.check_fault("@1" + "0" * 300, "the number is too great")
        self.check_fault("a @" + "9" * 301 + " b", "the number is too great", ("name", 0, "a"))

    def test_zeros_in_front_do_not_count(self):
        self.check("0" + "9" * 300, ("number", 0, 10 ** 300 - 1))
        self.check("0" * 301, ("number", 0, 0))
        self.check("0" * 5000 + "12", ("number", 0, 12))
        self.check_fault("@0001" + "0" * 300, "the number is too great")
        self.check_fault("@" + "7" * 6000, "the number is too great")


class TextsTest(TokensTest):
    def test_values(self):
        self.check('""', ("text", 0, ""))
        self.check('"a b"', ("text", 0, "a b"))
        self.check(r'"\n\"\\"', ("text", 0, "\n\"\\"))
        self.check('"// let" x', ("text", 0, "// let"), ("name", 9, "x"))
        self.check('"!#$&\'~?@^`|"', ("text", 0, "!#$&'~?@^`|"))

    def test_two_backslashes_and_the_end(self):
        self.check(r'"\\" a', ("text", 0, "\\"), ("name", 5, "a"))

    def test_unknown_escapes(self):
        self.check_fault(r'"ab@\t"', "the escape is not known")
        self.check_fault(r'"@\N"', "the escape is not known")
        self.check_fault('"@\\\n"', "the escape is not known")
        self.check_fault('"@\\\u00e9"', "the escape is not known")
        self.check_fault('"@\\%"', "the escape is not known")

    def test_characters_that_are_none(self):
        for sign in ("%", "\t", "\r", "\x00", "\x7f", "\u00e9", "\U0001f600"):
            with self.subTest(sign):
                self.check_fault(f'"ab@{sign}"', "this character is not allowed")

    def test_texts_without_an_end(self):
        self.check_fault('a @"b', "the text does not end", ("name", 0, "a"))
        self.check_fault('@"b\n"', "the text does not end")
        self.check_fault('@"', "the text does not end")
        self.check_fault('@"b\\', "the text does not end")
        self.check_fault('@"b\\"', "the text does not end")

    def test_the_first_fault_counts(self):
        self.check_fault('"@\\q%\n', "the escape is not known")
        self.check_fault('"@%\\q\n', "this character is not allowed")
        self.check_fault('@"\n%\\q', "the text does not end")
        self.check_fault('"@%', "this character is not allowed")

    def test_nothing_behind_a_fault(self):
        self.check_fault('@% " 1', "this character is not allowed")
        self.check_fault('x "@\\q" y', "the escape is not known", ("name", 0, "x"))


class SignsTest(TokensTest):
    def test_all_signs(self):
        for sign in "== != <= >= ( ) [ ] { } , ; : . = < > + - * /".split():
            with self.subTest(sign):
                self.check(sign + " ", ("sign", 0, sign))

    def test_signs_of_two_characters_come_first(self):
        self.check("===", ("sign", 0, "=="), ("sign", 2, "="))
        self.check("<=>=", ("sign", 0, "<="), ("sign", 2, ">="))
        self.check("<>", ("sign", 0, "<"), ("sign", 1, ">"))

    def test_other_characters(self):
        for sign in "!#$%&'?@\\^`|~":
            with self.subTest(sign):
                self.assertEqual(tokens_of(f"a {sign} b"), [
                    ("name", 0, "a"), ("fault", 2, "this character is not allowed"),
                ])

    def test_the_list_is_new(self):
        first = tokens_of("a")
        first.clear()
        self.check("a", ("name", 0, "a"))


if __name__ == "__main__":
    unittest.main()
