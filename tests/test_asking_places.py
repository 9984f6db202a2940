"""Which instructions tell an offset, the places of frames, and failures: points [57], [60] and [62]."""

import unittest

from livequill.asking.places import failure_of, next_line, next_row, places_of, told, told_offset
from livequill.asking.program import Program
from livequill.code.chunks import Chunk
from livequill.machine.frames import Frame
from livequill.values.refs import Builtin, Ref
from stores import Shelf

TELLING = [
    ("negate", 7), ("not", 7), ("add", 7), ("sub", 7), ("mul", 7), ("div", 7), ("mod", 7), ("eq", 7), ("ne", 7),
    ("lt", 7), ("le", 7), ("gt", 7), ("ge", 7), ("is", 7), ("map", 2, 7), ("item", 7), ("set_item", 7),
    ("field", "x", 7), ("set_field", "x", 7), ("call", 3, 7), ("invoke", "x", 3, 7), ("super", "x", 3, 7),
    ("class", "A", 7), ("iter", 7), ("raise", 7),
]
SILENT = [
    ("const", 7), ("const", None), ("const", "x"), ("load", 7), ("save", 7), ("pop",), ("jump", 7), ("unless", 7),
    ("both", 7), ("either", 7), ("list", 7), ("closure", 7, 2), ("declare",), ("blank",), ("drop", 7), ("method", "x"),
    ("next", 7), ("enter", 7), ("leave",), ("escape", 1, 2, 7), ("ret",),
]


class Stand:
    """Stands for a program object, a function or a machine, with these fields."""

    def __init__(self, **fields):
        for name, value in fields.items():
            setattr(self, name, value)

    def function_of(self, number):
        return self.functions[number]

    def chunk_of(self, number):
        return next(chunk for chunk in self.chunks if chunk.number == number)


class ToldOffsetTest(unittest.TestCase):
    def test_each_instruction(self):
        for row in TELLING:
            self.assertEqual(told_offset(row), 7, row)
        for row in SILENT:
            self.assertIsNone(told_offset(row), row)
        self.assertEqual(len({row[0] for row in TELLING + SILENT}), 44)

    def test_zero_is_an_offset(self):
        self.assertEqual(told_offset(("add", 0)), 0)
        self.assertEqual(told_offset(("call", 0, 0)), 0)


class StandCase(unittest.TestCase):
    def setUp(self):
        # The lines begin at 0, 10, 15 and 16; the functions at 0 and 12.
        self.program = Stand(text="012345678\nabcd\n\nlast", functions=[Stand(offset=0), Stand(offset=12)])
        self.rows = [("const", 1), ("negate", 3), ("pop",), ("const", 2), ("call", 1, 8), ("iter", 17), ("ret",)]
        self.inner = [("const", 1), ("pop",), ("not", 0), ("add", 1), ("const", 2), ("mul", 5), ("ret",)]
        self.chunks = [Chunk(0, 0, self.rows), Chunk(1, 0, self.inner)]

    def machine(self, *places, state="running", thrown=None, failed=()):
        frames = []
        for number, at in places:
            frame = Frame(number, ())
            frame.at = at
            frames.append(frame)
        return Stand(chunks=self.chunks, frames=frames, state=state, thrown=thrown, places=list(failed),
                     store=Shelf().store, steps=0)


class PlacesTest(StandCase):
    def test_next_row(self):
        machine = self.machine((1, 3), (0, 5))
        self.assertEqual(next_row(machine, machine.frames[0]), ("add", 1))
        self.assertEqual(next_row(machine, machine.frames[1]), ("iter", 17))

    def test_next_line(self):
        found = [next_line(self.program, self.machine((0, at))) for at in range(7)]
        self.assertEqual(found, [None, 1, None, None, 1, 4, None])
        found = [next_line(self.program, self.machine((1, at), (0, 5))) for at in range(7)]
        self.assertEqual(found, [None, None, 2, 2, None, 4, None])
        for state in ("finished", "failed"):
            self.assertIsNone(next_line(self.program, self.machine(state=state)))

    def test_the_innermost_frame(self):
        found = [places_of(self.program, self.machine((0, at))) for at in range(7)]
        self.assertEqual(found, [[(0, 1, 1)], [(0, 1, 4)], [(0, 1, 4)], [(0, 1, 4)], [(0, 1, 9)], [(0, 4, 2)],
                                 [(0, 4, 2)]])
        found = [places_of(self.program, self.machine((1, at)))[0] for at in range(7)]
        self.assertEqual(found, [(1, 2, 3)] * 3 + [(1, 2, 4)] * 2 + [(1, 4, 2)] * 2)

    def test_several_frames(self):
        self.assertEqual(places_of(self.program, self.machine((1, 3), (0, 5))), [(1, 2, 4), (0, 1, 9)])
        self.assertEqual(places_of(self.program, self.machine((1, 0), (1, 4), (0, 5))),
                         [(1, 2, 3), (1, 2, 4), (0, 1, 9)])
        self.assertEqual(places_of(self.program, self.machine(state="finished")), [])


class FailureTest(StandCase):
    def test_a_machine_that_has_not_failed(self):
        self.assertIsNone(failure_of(self.program, self.machine((0, 0))))
        self.assertIsNone(failure_of(self.program, self.machine(state="finished")))

    def test_a_failure(self):
        machine = self.machine(state="failed", thrown=None, failed=[(1, 0), (0, 17), (0, 0)])
        self.assertEqual(failure_of(self.program, machine), ("null", [(1, 2, 3), (0, 4, 2), (0, 1, 1)]))
        self.assertEqual(machine.places, [(1, 0), (0, 17), (0, 0)])

    def test_told(self):
        shelf = Shelf()
        kin = shelf.kin("A")
        make = shelf.instance
        cases = [
            (make(Ref(0), kind="KeyError", message="no such key"), "KeyError: no such key"),
            (make(kin, message="b", x=1, kind="a"), "a: b"),
            (make(kin, kind="", message=""), ": "),
            (make(kin, kind="a\n\"", message="\\"), "a\n\": \\"),
            (make(kin, kind="a"), "<A>"), (make(kin, message="a"), "<A>"), (make(kin), "<A>"),
            (make(kin, kind="a", message=1), "<A>"), (make(kin, kind=None, message="a"), "<A>"),
            (make(kin, kind="a", message=None), "<A>"), (make(kin, kind=True, message="a"), "<A>"),
            (None, "null"), (5, "5"), ("kind: a", "\"kind: a\""), (True, "true"), (kin, "<class A>"),
            (Builtin("len"), "<function>"), (shelf.list("a"), "[\"a\"]"),
            (shelf.map(("kind", "a"), ("message", "b")), "{\"kind\": \"a\", \"message\": \"b\"}"),
        ]
        for value, text in cases:
            self.assertEqual(told(shelf.store, value), text)

    def test_shortened(self):
        shelf = Shelf()
        for size in (97, 98, 99, 1000):
            text = "k: " + "m" * size
            error = shelf.instance(Ref(0), kind="k", message="m" * size)
            self.assertEqual(told(shelf.store, error), text if size <= 97 else text[:100] + "...")
        error = shelf.instance(Ref(0), kind="k" * 1000, message="")
        self.assertEqual(told(shelf.store, error), "k" * 100 + "...")
        self.assertEqual(told(shelf.store, "x" * 200), "\"" + "x" * 99 + "...")


class ProgramTest(unittest.TestCase):
    """Places of machines that run programs."""

    def test_a_failure_in_calls(self):
        program = Program("fun f(x) {\n  return x / 0;\n}\nlet y =\n  f(\n1);\n")
        machine = program.after([], 1000)
        self.assertEqual(failure_of(program, machine),
                         ("ZeroDivisionError: division by zero", [(1, 2, 12), (0, 5, 4)]))
        self.assertEqual(places_of(program, machine), [])
        self.assertIsNone(next_line(program, machine))

    def test_steps_of_a_program(self):
        program = Program("print(\n-1);\n")
        machine = program.start([])
        found = []
        while True:
            found.append((next_line(program, machine), places_of(program, machine)))
            if not machine.step():
                break
        self.assertEqual(found, [
            (None, [(0, 1, 1)]), (None, [(0, 1, 1)]), (2, [(0, 2, 1)]), (1, [(0, 1, 6)]), (None, [(0, 1, 6)]),
            (None, [(0, 1, 6)]), (None, [(0, 1, 6)]), (None, [])])

    def test_thrown_values(self):
        for text, expected in (("throw 5;", ("5", [(0, 1, 1)])), ("\n throw \"a\";", ("\"a\"", [(0, 2, 2)])),
                               ("throw Error(\"a\", \"b\");", ("a: b", [(0, 1, 1)])),
                               ("let l = [1];\nl[\n1];", ("IndexError: index out of range", [(0, 2, 2)])),
                               ("for (x in 5) { }", ("KindError: cannot go through integer", [(0, 1, 1)])),
                               ("class A extends print { }", ("KindError: the parent is not a class", [(0, 1, 1)]))):
            program = Program(text)
            self.assertEqual(failure_of(program, program.after([], 100)), expected)

    def test_an_instruction_that_tells_no_offset(self):
        program = Program("let l = [" + "0," * 1000 + "0];")
        machine = program.after([], 5000)
        self.assertEqual((machine.state, machine.places), ("failed", [(0, 0)]))
        self.assertEqual(failure_of(program, machine), ("SizeError: too large", [(0, 1, 1)]))


if __name__ == "__main__":
    unittest.main()
