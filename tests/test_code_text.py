"""Code as text: points [48] to [50]."""

import unittest

from livequill.code.chunks import Chunk
from livequill.code.reading import read_code
from livequill.code.translate import translate
from livequill.code.written import write_code
from livequill.errors import InvalidCode
from livequill.names.faults import read_program
from livequill.values.refs import BUILTINS, Builtin, Ref
from helpers import unmarked
from programs import programs
from stores import MOST

NO_LINE = "this is no line of code"
NO_FUNCTION = "no function has begun"
WRONG_INDEX = "this is not the index of the instruction"
NOT_CLOSED = "the text is not closed"
CANNOT_STAND = "this cannot stand here"

# An instruction of each word.
ROWS = [
    ("const", 5), ("load", 1), ("save", 2), ("pop",), ("negate", 3), ("not", 4), ("add", 5), ("sub", 6), ("mul", 7),
    ("div", 8), ("mod", 9), ("eq", 10), ("ne", 11), ("lt", 12), ("le", 13), ("gt", 14), ("ge", 15), ("is", 16),
    ("jump", 17), ("unless", 18), ("both", 19), ("either", 20), ("list", 21), ("map", 22, 23), ("item", 24),
    ("set_item", 25), ("field", "a", 26), ("set_field", "b", 27), ("call", 28, 29), ("invoke", "c", 30, 31),
    ("super", "d", 32, 33), ("closure", 34, 35), ("declare",), ("blank",), ("drop", 36), ("class", "E", 37),
    ("method", "f"), ("iter", 38), ("next", 39), ("enter", 40), ("leave",), ("escape", 41, 42, 43), ("raise", 44),
    ("ret",),
]
CONSTANTS = [None, True, False, 0, 1, -1, MOST, -MOST, "", "a", "null", "a\"b\\c\nd", "\\n", "; x", "\u00e9\r\t%", Ref(0),
             *[Builtin(name) for name in BUILTINS]]


def read_rows(text):
    """The instructions of the one function that stands in a text."""
    (chunk,) = read_code(text)
    return chunk.rows


class WrittenTest(unittest.TestCase):
    def test_nothing(self):
        self.assertEqual(write_code([]), "")
        self.assertEqual(write_code([Chunk(0, 0, [])]), "function 0 0\n")

    def test_functions_and_indexes(self):
        code = write_code([Chunk(0, 0, [("pop",)] * 11), Chunk(12, 3, [("ret",)])])
        self.assertEqual(code, "function 0 0\n" + "".join(f"  {index}: pop\n" for index in range(11)) +
                         "function 12 3\n  0: ret\n")

    def test_constants(self):
        lines = write_code([Chunk(0, 0, [("const", value) for value in CONSTANTS])]).split("\n")[1:-1]
        words = ["null", "true", "false", "0", "1", "-1", "9" * 300, "-" + "9" * 300, "\"\"", "\"a\"", "\"null\"",
                 "\"a\\\"b\\\\c\\nd\"", "\"\\\\n\"", "\"; x\"", "\"\u00e9\r\t%\"", "error", *BUILTINS]
        self.assertEqual(lines, [f"  {index}: const {word}" for index, word in enumerate(words)])

    def test_each_instruction(self):
        lines = write_code([Chunk(0, 0, ROWS)]).split("\n")[1:-1]
        for index, (row, line) in enumerate(zip(ROWS, lines, strict=True)):
            operands = [f" \"{part}\"" if isinstance(part, str) else f" {part}" for part in row[1:]]
            self.assertEqual(line, f"  {index}: {row[0]}{''.join(operands)}")

    def test_a_program(self):
        self.assertEqual(write_code(translate(read_program("fun f(x) { return -x; } print(f(\"a\"));"))),
                         "function 0 0\n  0: blank\n  1: closure 1 1\n  2: save 0\n  3: pop\n  4: const print\n"
                         "  5: load 0\n  6: const \"a\"\n  7: call 1 31\n  8: call 1 29\n  9: pop\n  10: drop 1\n"
                         "  11: const null\n  12: ret\nfunction 1 1\n  0: load 0\n  1: negate 18\n  2: ret\n"
                         "  3: const null\n  4: ret\n")


class ReadTest(unittest.TestCase):
    def test_what_was_written(self):
        chunks = [Chunk(0, 0, ROWS), Chunk(3, 2, [("const", value) for value in CONSTANTS]), Chunk(3, 0, [])]
        self.assertTrue(read_code(write_code(chunks)) == chunks)
        self.assertEqual([chunk.scopes for chunk in read_code(write_code(chunks))], [[], [], []])
        for value, row in zip(CONSTANTS, read_code(write_code(chunks))[1].rows):
            self.assertIs(type(row[1]), type(value))

    def test_code_of_programs(self):
        for text in programs(7, 40):
            chunks = translate(read_program(text))
            self.assertTrue(read_code(write_code(chunks)) == chunks)

    def test_texts_without_code(self):
        for text in ("", "\n", "  \n\n   ", "; nothing", "\n ; \" \\ \u00e9\n"):
            self.assertEqual(read_code(text), [])

    def test_gaps(self):
        text = "\n  function   0   2  ; the first\n\npop;next\n 1 :  load   3   \n2:const\"a;b\"; \"\n\n  ret"
        (chunk,) = read_code(text)
        self.assertEqual((chunk.number, chunk.wanted), (0, 2))
        self.assertEqual(chunk.rows, [("pop",), ("load", 3), ("const", "a;b"), ("ret",)])

    def test_the_last_line(self):
        self.assertEqual(read_rows("function 0 0\nret"), [("ret",)])
        self.assertEqual(read_rows("function 0 0\nret\n"), [("ret",)])
        self.assertEqual(read_rows("function 0 0"), [])
        self.assertEqual(read_rows("function 0 0;"), [])

    def test_no_blanks(self):
        self.assertEqual(read_rows("function0 0\n0:load1\n1:map2 3\nconst\"a\"\n3:const-5\nfield\"x\"7\n5:invoke\"m\"1 2\n"
                                   "const null\n7:set_item3"),
                         [("load", 1), ("map", 2, 3), ("const", "a"), ("const", -5), ("field", "x", 7),
                          ("invoke", "m", 1, 2), ("const", None), ("set_item", 3)])

    def test_a_minus_parts_numbers(self):
        self.assertEqual(read_rows("function 0-0\nmap 2-0"), [("map", 2, 0)])

    def test_indexes(self):
        self.assertEqual(read_rows("function 0 0\n0: pop\npop\n2: pop\n0003: pop\n4 : pop"), [("pop",)] * 5)
        self.assertEqual(read_rows("function 0 0\n-0: pop"), [("pop",)])
        chunks = read_code("function 0 0\n0: pop\nfunction 1 0\n0: ret\n")
        self.assertEqual([chunk.rows for chunk in chunks], [[("pop",)], [("ret",)]])

    def test_numbers(self):
        for text, value in (("0", 0), ("-0", 0), ("-000", 0), ("007", 7), ("-007", -7), ("9" * 300, MOST),
                            ("-" + "9" * 300, -MOST), ("0" * 6000 + "5", 5), ("0" * 9 + "9" * 300, MOST)):
            self.assertEqual(read_rows(f"function 0 0\nconst {text}"), [("const", value)])
        self.assertEqual(read_rows("function 000 01\nload -0\nload 999999999\nmap 0 0999999999"),
                         [("load", 0), ("load", 999999999), ("map", 0, 999999999)])
        (chunk,) = read_code("function 999999999 999999999")
        self.assertEqual((chunk.number, chunk.wanted), (999999999, 999999999))

    def test_texts(self):
        for text, value in (("\"\"", ""), ("\"a;b:c\"", "a;b:c"), ("\"\\\"\\\\\\n\"", "\"\\\n"), ("\"\t%\u00e9\"", "\t%\u00e9"),
                            ("\"error\"", "error"), ("\"  \"", "  ")):
            self.assertEqual(read_rows(f"function 0 0\nconst {text}"), [("const", value)])
        self.assertEqual(read_rows("function 0 0\nfield \"\\\"\" 1"), [("field", "\"", 1)])

    def test_words_of_const(self):
        for word, value in (("null", None), ("true", True), ("false", False), ("error", Ref(0)), ("print", Builtin("print")),
                            ("equals", Builtin("equals"))):
            (row,) = read_rows(f"function 0 0\nconst {word}")
            self.assertEqual(row, ("const", value))
            self.assertIs(type(row[1]), type(value))


class FaultsTest(unittest.TestCase):
    def check(self, message, *texts):
        """Checks the fault of each text, at its mark."""
        for text in texts:
            plain, (offset,) = unmarked(text)
            with self.subTest(plain):
                with self.assertRaises(InvalidCode) as caught:
                    read_code(plain)
                self.assertEqual((caught.exception.offset, caught.exception.message), (offset, message))

    def check_line(self, message, *lines):
        """Checks the fault of lines behind the beginning of a function."""
        self.check(message, *[f"function 0 0\n@{line}" for line in lines])

    def test_texts_that_are_not_closed(self):
        self.check(NOT_CLOSED, "@\"", "const @\"a", "@\"a\nb\"", "@\"a\\", "@\"a\\\"", "@\"a\\x\"", "@\"\\N\"", "@\"\\\n\"",
                   "\"a\" @\"b", "@\"\\", "; \"\n@\"a")

    def test_characters_that_cannot_stand(self):
        self.check(CANNOT_STAND, "@(", "a @, b", "@-", "@- 5", "@--5", "5 @-a", "@\tpop", "pop@\r\n", "@%", "@\u00e9", "@\u0665",
                   "add@.", "@'a'", "\"a\"@\\", "@\u00a0", "1@/2", "@+5")

    def test_which_of_two_comes_first(self):
        self.check(CANNOT_STAND, "@( \"", "\n\n@? \"a", "pop\n@#\n\"")
        self.check(NOT_CLOSED, "@\" (", "@\"a\n(", "pop pop\n@\"\\q\" ?")
        # All pieces come ahead of all lines.
        self.check(CANNOT_STAND, "no line of code\nfunction 0 0\n@?")
        self.check(NOT_CLOSED, "pop\nfunction 0 0\n5: pop\nconst @\"")

    def test_the_first_line_counts(self):
        self.check(NO_LINE, "\n  @word\npop", "function 0 0\n@0: 5\n9: pop")
        self.check(NO_FUNCTION, "@pop\nword", "@0: pop\nfunction 0 0", "  \n ; \n @5: pop")
        self.check(WRONG_INDEX, "function 0 0\n@1: pop\nword")

    def test_which_fault_of_a_line_comes_first(self):
        self.check(NO_LINE, "@5: pop pop", "@word")
        self.check(NO_FUNCTION, "@5: pop")

    def test_where_a_line_is_told(self):
        self.check(NO_LINE, "function 0 0\n   @0: word", "function 0 0\n  @: pop", "function 0 0\n @\"a\" pop",
                   "function 0 0\n @-5 pop")

    def test_no_instructions(self):
        self.check_line(NO_LINE, "0:", ":", "0", "5: 6: pop", "0: : pop", ": pop", "0 pop", "pop:", "\"pop\"", "Pop", "POP",
                        "functions 1 1", "pop_", "_pop", "1: 1", "null", "print", "error", "0: \"a\"", "pop 0: pop",
                        "set item 1", "setitem 1", "variable 1", "offset 1")

    def test_beginnings_of_functions(self):
        self.check_line(NO_LINE, "function", "function 1", "function 1 1 1", "function a 1", "function 1 a", "function \"1\" 1",
                        "function -1 0", "function 0 -1", "function 1000000000 0", "function 0 1000000000",
                        "0: function 1 1", ": function 1 1", "1: function", "Function 1 1", "function: 1 1",
                        f"function {'9' * 5000} 1")
        self.check(NO_LINE, "@function 0", "@0: function 0 0")

    def test_numbers_of_operands(self):
        for row in ROWS:
            operands = [f"\"{part}\"" if isinstance(part, str) else str(part) for part in row[1:]]
            words = [row[0], *operands]
            self.assertEqual(read_rows("function 0 0\n" + " ".join(words)), [row])
            self.check_line(NO_LINE, " ".join([*words, "1"]), " ".join([*words, "\"a\""]), " ".join([*words, "null"]))
            if operands:
                self.check_line(NO_LINE, " ".join(words[:-1]), row[0])

    def test_kinds_of_operands(self):
        for row in ROWS:
            for at, operand in enumerate(row[1:], start=1):
                if row[0] == "const":
                    others = ["none", "Error", "True", "\"a\" \"b\"", "", "const", "Null", "pop", "function"]
                elif isinstance(operand, str):
                    others = ["5", "a", "null", "-1"]
                else:
                    others = ["\"a\"", "a", "null", "-1", "1000000000", "9" * 400, "true", "\"5\""]
                for other in others:
                    words = [f"\"{part}\"" if isinstance(part, str) else str(part) for part in row]
                    words[0] = row[0]
                    words[at] = other
                    self.check_line(NO_LINE, " ".join(words))

    def test_great_constants(self):
        self.check_line(NO_LINE, "const 1" + "0" * 300, "const -1" + "0" * 300, "const " + "9" * 301, "const " + "9" * 5000)

    def test_wrong_indexes(self):
        self.check_line(WRONG_INDEX, "1: pop", "-1: pop", "1000000000: pop", "9" * 5000 + ": pop", "-" + "9" * 5000 + ": pop")
        self.check(WRONG_INDEX, "function 0 0\n0: pop\n@0: pop", "function 0 0\npop\n@2: pop",
                   "function 0 0\npop\nfunction 1 0\n@1: pop")

    def test_a_number_alone_in_front_of_a_word(self):
        self.check_line(NO_LINE, "0 : : pop", "0 0: pop")


if __name__ == "__main__":
    unittest.main()
