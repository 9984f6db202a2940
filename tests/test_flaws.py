"""Flaws of code: points [51] to [53]."""

import unittest

from livequill.asking.program import Program
from livequill.code.chunks import Chunk
from livequill.code.flaws import flaws_of
from livequill.code.reading import read_code
from programs import programs

ENDS = "the code ends here"
SHAPES = "reached with different shapes"
ODD = "an odd number of values"
VALUES = "too few values"
VARIABLES = "too few variables"
HANDLERS = "too few handlers"
NO_FUNCTION = "no such function"
PARAMETERS = "another number of parameters"
SCOPES = "made in different scopes"
TWICE = "two functions have this number"

# Each instruction with how many values it needs, and how many are there behind it then (None where nothing follows).
NEEDS = [
    (("const", 1), 0, 1), (("save", 0), 1, 1), (("pop",), 1, 0), (("negate", 0), 1, 1), (("not", 0), 1, 1),
    *[((word, 0), 2, 1) for word in "add sub mul div mod eq ne lt le gt ge is".split()],
    (("unless", 50), 1, 0), (("list", 0), 0, 1), (("list", 3), 3, 1), (("map", 0, 0), 0, 1), (("map", 4, 0), 4, 1),
    (("item", 0), 2, 1), (("set_item", 0), 3, 1), (("field", "x", 0), 1, 1), (("set_field", "x", 0), 2, 1),
    (("call", 0, 0), 1, 1), (("call", 3, 0), 4, 1), (("invoke", "x", 0, 0), 1, 1), (("invoke", "x", 3, 0), 4, 1),
    (("super", "x", 0, 0), 2, 1), (("super", "x", 3, 0), 5, 1), (("closure", 1, 0), 0, 1), (("declare",), 1, 0),
    (("blank",), 0, 0), (("drop", 1), 0, 0), (("load", 0), 0, 1), (("class", "A", 0), 0, 1), (("method", "m"), 2, 1),
    (("iter", 0), 1, 1), (("leave",), 0, 0), (("raise", 0), 1, None), (("ret",), 1, None),
]


def flaws(text):
    """The flaws of code that is written without indexes, its lines parted by `/`."""
    return flaws_of(read_code(text.replace("/", "\n")))


class FlawCase(unittest.TestCase):
    def check(self, text, *expected):
        """Checks the flaws of code; those of function 0 as pairs, others as tuples of three."""
        told = [flaw if len(flaw) == 3 else (0, *flaw) for flaw in expected]
        with self.subTest(text):
            self.assertEqual(flaws(text), told)


class ValuesTest(FlawCase):
    def rows_with(self, row, values):
        """The row with so many values on the stack, one variable in scope and one handler, and what follows."""
        return [("blank",), ("enter", 60), *[("const", None)] * values, row]

    def test_each_instruction(self):
        for row, wanted, left in NEEDS:
            for values in range(wanted + 2):
                rows = self.rows_with(row, values)
                at = len(rows) - 1
                if values >= wanted and left is not None:
                    # What is left is taken away, one value after another, and one more.
                    rows += [("pop",)] * (values - wanted + left + 1)
                    expected = (0, len(rows) - 1, VALUES)
                elif values >= wanted:
                    expected = None
                else:
                    expected = (0, at, VALUES)
                rows += [("const", None), ("ret",)] * 30
                # The handler's code is at 60.
                found = flaws_of([Chunk(0, 0, rows[:60] + [("ret",)]), Chunk(1, 0, [("const", 1), ("ret",)])])
                with self.subTest((row, values)):
                    self.assertEqual(found, [] if expected is None else [expected])

    def test_both_and_either(self):
        for word in ("both", "either"):
            self.check(f"function 0 0/{word} 1/ret", (0, VALUES))
            # The value is there at the index, and gone behind it.
            self.check(f"function 0 0/const 1/{word} 3/const 2/ret")
            self.check(f"function 0 0/const 1/{word} 2/ret", (2, VALUES))
            self.check(f"function 0 0/const 1/{word} 4/const 2/pop/ret", (4, VALUES))
            self.check(f"function 0 0/const 1/{word} 4/const 2/ret/pop/const 3/ret")
            self.check(f"function 0 0/const 1/{word} 4/const 2/ret/pop/pop", (5, VALUES))
            self.check(f"function 0 0/const 1/{word} 4/const 2/ret/leave", (4, HANDLERS))
            self.check(f"function 0 0/const 1/{word} 9/const 2/ret", (9, ENDS))

    def test_unless(self):
        self.check("function 0 0/const 1/unless 3/jump 3/const 2/ret")
        self.check("function 0 0/const 1/unless 3/const 5/const 2/ret", (3, SHAPES))

    def test_next(self):
        self.check("function 0 0/blank/next 4/pop/jump 1/const 1/ret")
        self.check("function 0 0/blank/next 3/pop/ret", (3, VALUES))
        self.check("function 0 0/blank/next 3/ret/pop/ret", (3, VALUES))
        self.check("function 0 0/blank/next 3/jump 1/const 1/ret", (1, SHAPES))
        self.check("function 0 0/next 1/ret", (0, VARIABLES))

    def test_a_stack_that_grows(self):
        self.check("function 0 0/const 1/jump 0", (0, SHAPES))

    def test_odd_maps(self):
        self.check("function 0 0/map 1 0/ret", (0, ODD))
        self.check("function 0 0/const 1/map 1 0/ret", (1, ODD))
        self.check("function 0 0/map 2 0/ret", (0, VALUES))
        self.check("function 0 0/const 1/const 2/const 3/map 3 0/ret", (3, ODD))


class VariablesTest(FlawCase):
    def test_load_save_and_drop(self):
        for word in ("load", "save"):
            for variables in range(3):
                for at in range(4):
                    text = "function 0 0/" + "blank/" * variables + f"const 1/{word} {at}/ret"
                    self.check(text, *([] if at < variables else [(variables + 1, VARIABLES)]))
        for variables in range(3):
            for many in range(4):
                text = "function 0 0/" + "blank/" * variables + f"drop {many}/const 1/ret"
                self.check(text, *([] if many <= variables else [(variables, VARIABLES)]))
        self.check("function 0 0/save 0/ret", (0, VALUES))

    def test_class_and_next(self):
        self.check("function 0 0/class \"A\" 0/ret", (0, VARIABLES))
        self.check("function 0 0/blank/class \"A\" 0/ret")

    def test_how_many_there_are(self):
        self.check("function 0 0/const 1/declare/blank/drop 2/drop 1/ret", (4, VARIABLES))
        self.check("function 0 0/const 1/declare/blank/drop 1/load 0/ret")
        self.check("function 0 0/const 1/declare/blank/drop 1/load 1/ret", (4, VARIABLES))

    def test_variables_of_a_function(self):
        self.check("function 0 0/blank/closure 1 2/ret/function 1 2/load 2/ret")
        self.check("function 0 0/blank/closure 1 2/ret/function 1 2/load 3/ret", (1, 0, VARIABLES))
        self.check("function 0 0/blank/blank/drop 1/closure 1 1/ret/function 1 1/load 2/ret", (1, 0, VARIABLES))


class HandlersTest(FlawCase):
    def test_leave_and_escape(self):
        self.check("function 0 0/leave/const 1/ret", (0, HANDLERS))
        self.check("function 0 0/enter 3/leave/const 1/ret")
        self.check("function 0 0/enter 4/leave/leave/ret/ret", (2, HANDLERS))
        self.check("function 0 0/enter 5/blank/escape 1 1 3/const 1/ret/ret")
        self.check("function 0 0/enter 5/blank/escape 2 1 3/const 1/ret/ret", (2, HANDLERS))
        self.check("function 0 0/enter 5/blank/escape 1 2 3/const 1/ret/ret", (2, VARIABLES))
        self.check("function 0 0/escape 1 1 3/const 1/ret", (0, HANDLERS))
        self.check("function 0 0/escape 0 1 3/const 1/ret", (0, VARIABLES))
        self.check("function 0 0/escape 0 0 1/const 1/ret")

    def test_the_code_of_a_handler(self):
        # It is reached with one value, and what was in scope in front of `enter`.
        self.check("function 0 0/const 1/const 2/enter 4/ret/ret")
        self.check("function 0 0/const 1/const 2/enter 4/ret/pop/ret", (5, VALUES))
        self.check("function 0 0/enter 4/blank/const 1/ret/load 0/ret", (4, VARIABLES))
        self.check("function 0 0/blank/enter 4/blank/jump 5/load 0/const 1/ret", (5, SHAPES))
        self.check("function 0 0/enter 3/const 1/ret/leave/ret", (3, HANDLERS))
        self.check("function 0 0/enter 5/enter 4/const 1/ret/leave/ret")
        self.check("function 0 0/enter 6/enter 4/const 1/ret/leave/leave/ret", (5, HANDLERS))

    def test_shapes_with_handlers(self):
        # One instruction, reached with handlers that differ in their number, their index or their variables alone.
        self.check("function 0 0/const 1/unless 4/enter 7/jump 4/const 1/ret/ret/ret", (4, SHAPES))
        self.check("function 0 0/const 1/unless 4/enter 7/jump 5/enter 8/const 1/ret/ret/ret", (5, SHAPES))
        self.check("function 0 0/const 1/unless 5/enter 9/blank/jump 7/blank/enter 9/const 1/ret/ret", (7, SHAPES))
        self.check("function 0 0/const 1/unless 4/enter 7/jump 5/enter 7/const 1/ret/ret")

    def test_raise_and_ret_end(self):
        self.check("function 0 0/const 1/raise 0")
        self.check("function 0 0/const 1/ret/leave")


class EndsTest(FlawCase):
    def test_the_code_ends(self):
        self.check("function 0 0", (0, ENDS))
        self.check("function 0 0/const 1", (1, ENDS))
        self.check("function 0 0/jump 7", (7, ENDS))
        self.check("function 0 0/jump 999999999", (999999999, ENDS))
        self.check("function 0 0/enter 9/const 1/ret", (9, ENDS))
        self.check("function 0 0/const 1/unless 9/const 1/ret", (9, ENDS))
        self.check("function 0 0/escape 0 0 5", (5, ENDS))
        self.check("function 0 0/const 1/both 9/const 1/ret", (9, ENDS))
        self.check("function 0 0/blank/next 9/ret", (9, ENDS))

    def test_code_that_is_never_reached(self):
        self.check("function 0 0/const 1/ret/pop/pop/leave/load 7/jump 99")
        self.check("function 0 0/jump 2/pop/const 1/ret")
        self.check("function 0 0/const 1/ret/function 1 0/pop/function 2 5")

    def test_loops(self):
        self.check("function 0 0/jump 0")
        self.check("function 0 0/const 1/unless 3/jump 0/const 1/ret")


class OrderTest(FlawCase):
    def test_what_was_reached_last_is_taken_first(self):
        # The next instruction comes ahead of the index in the instruction.
        self.check("function 0 0/const 1/unless 4/pop/ret/leave", (2, VALUES))
        self.check("function 0 0/const 1/unless 4/const 1/ret/leave", (4, HANDLERS))
        self.check("function 0 0/enter 3/pop/ret/pop/pop/ret", (1, VALUES))
        # Two branches: those of the second one come ahead.
        self.check("function 0 0/const 1/unless 6/const 2/unless 7/const 3/ret/leave/pop/ret", (7, VALUES))

    def test_the_first_flaw_ends_the_check(self):
        self.check("function 0 0/const 1/unless 3/pop/pop", (2, VALUES))

    def test_several_faults_of_one_instruction(self):
        self.check("function 0 0/map 3 0/ret", (0, ODD))
        self.check("function 0 0/save 0/ret", (0, VALUES))
        self.check("function 0 0/escape 1 1 0", (0, HANDLERS))
        self.check("function 0 0/closure 9 5/ret", (0, NO_FUNCTION))

    def test_a_shape_that_is_not_there_counts_ahead(self):
        self.check("function 0 0/const 1/unless 9/const 1/jump 9", (9, ENDS))


class FunctionsTest(FlawCase):
    def test_closures(self):
        self.check("function 0 0/closure 1 0/ret", (0, NO_FUNCTION))
        self.check("function 0 0/closure 1 0/ret/function 1 0/const 1/ret")
        self.check("function 0 0/closure 1 1/ret/function 1 0/const 1/ret", (0, PARAMETERS))
        self.check("function 0 0/closure 1 0/ret/function 1 2/const 1/ret", (0, PARAMETERS))
        self.check("function 0 0/closure 999999999 0/ret", (0, NO_FUNCTION))

    def test_functions_that_are_not_made(self):
        self.check("function 0 0/const 1/ret/function 1 0/pop")
        self.check("function 0 0/const 1/ret/closure 1 5/function 1 0/pop")

    def test_the_order_of_the_checks(self):
        text = ("function 0 0/closure 3 0/pop/closure 1 0/pop/closure 2 0/ret/"
                "function 1 0/leave/function 2 0/pop/function 3 0/load 0/")
        self.check(text, (3, 0, VARIABLES), (1, 0, HANDLERS), (2, 0, VALUES))
        # By the order in which they got their shapes, not by their indexes.
        text = ("function 0 0/const 1/unless 4/closure 2 0/ret/closure 1 0/ret/function 1 0/leave/function 2 0/pop")
        self.check(text, (2, 0, VALUES), (1, 0, HANDLERS))
        text = ("function 0 0/jump 3/closure 1 0/ret/closure 2 0/pop/jump 1/function 1 0/leave/function 2 0/pop")
        self.check(text, (2, 0, VALUES), (1, 0, HANDLERS))

    def test_a_queue(self):
        # Function 1 makes 3; 2 is checked ahead of it.
        text = ("function 0 0/closure 1 0/pop/closure 2 0/ret/function 1 0/closure 3 0/ret/"
                "function 2 0/leave/function 3 0/pop")
        self.check(text, (2, 0, HANDLERS), (3, 0, VALUES))

    def test_a_function_with_a_flaw_makes_nothing(self):
        self.check("function 0 0/closure 1 0/pop/pop/function 1 0/leave", (2, VALUES))
        self.check("function 0 0/closure 1 0/ret/function 1 0/closure 2 0/leave/function 2 0/pop", (1, 1, HANDLERS))

    def test_functions_that_make_themselves(self):
        self.check("function 0 0/closure 1 0/ret/function 1 0/closure 1 0/ret")
        self.check("function 0 0/closure 0 0/ret")
        self.check("function 0 0/blank/closure 0 0/ret", (0, SCOPES))
        self.check("function 0 0/closure 1 1/ret/function 1 1/closure 1 1/ret", (1, 0, SCOPES))

    def test_different_scopes(self):
        self.check("function 0 0/closure 1 0/blank/closure 1 0/ret/function 1 0/const 1/ret", (1, 0, SCOPES))
        self.check("function 0 0/closure 1 0/blank/drop 1/closure 1 0/ret/function 1 0/const 1/ret")
        self.check("function 0 0/blank/closure 1 0/blank/closure 1 0/blank/closure 1 0/ret/function 1 0/load 0/ret",
                   (1, 0, SCOPES), (1, 0, SCOPES))
        # The first scope counts for the check.
        self.check("function 0 0/closure 1 0/blank/closure 1 0/ret/function 1 0/load 0/ret",
                   (1, 0, VARIABLES), (1, 0, SCOPES))
        self.check("function 0 0/blank/closure 1 0/drop 1/closure 1 0/ret/function 1 0/load 0/ret", (1, 0, SCOPES))


class NumbersTest(FlawCase):
    def test_no_program(self):
        self.check("", (0, NO_FUNCTION))
        self.check("function 1 0/pop", (0, NO_FUNCTION))
        self.check("function 0 1/pop", (0, PARAMETERS))
        self.check("function 1 0/pop/function 0 0/const 1/ret")

    def test_several_with_one_number(self):
        self.check("function 0 0/const 1/ret/function 0 0/pop", (0, TWICE))
        self.check("function 0 0/const 1/ret/function 0 5/pop", (0, TWICE))
        self.check("function 0 0/pop/function 0 0/const 1/ret", (0, TWICE), (0, VALUES))
        self.check("function 0 1/function 0 0/const 1/ret", (0, TWICE), (0, PARAMETERS))
        self.check("function 2 0/function 1 0/function 2 0/function 1 0/function 2 0",
                   (2, 0, TWICE), (1, 0, TWICE), (2, 0, TWICE), (0, NO_FUNCTION))
        self.check("function 0 0/closure 1 1/ret/function 1 1/load 0/ret/function 1 0/pop", (1, 0, TWICE))
        self.check("function 0 0/closure 1 0/ret/function 1 1/load 0/ret/function 1 0/const 1/ret",
                   (1, 0, TWICE), (0, PARAMETERS))

    def test_nothing_is_changed(self):
        chunks = read_code("function 0 0\npop\nfunction 0 0\n")
        flaws_of(chunks).clear()
        self.assertEqual((len(chunks), chunks[0].rows), (2, [("pop",)]))
        self.assertEqual(len(flaws_of(chunks)), 2)


class ProgramsTest(unittest.TestCase):
    def test_the_code_of_programs_is_sound(self):
        for text in programs(11, 120):
            self.assertEqual(flaws_of(Program(text).chunks), [], text)

    def test_some_programs(self):
        for text in ("", "while (true) { try { break; } catch (e) { continue; } }",
                     "for (x in 1) { for (y in 2) { let z = 3; try { let w = 4; continue; } catch (e) { break; } } }",
                     "class A extends Error { init() { return; } m(x) { return fun () { return super.m(x); }; } }",
                     "fun f() { return 1; let x = 2; throw x; }", "throw 1; print(2); { let x = 1; throw x; }"):
            self.assertEqual(flaws_of(Program(text).chunks), [], text)


if __name__ == "__main__":
    unittest.main()
