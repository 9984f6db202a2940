"""Running a machine with breakpoints, over calls and out of them: point [63]."""

import unittest

from livequill.asking.program import Program
from livequill.asking.running import run_on
from livequill.names.places import place_of
from machines import state
from programs import programs

TEXT = """fun f(n) {
  if (n == 0) return 0;
  return 1 + f(n - 1);
}
let a = f(2);
print(a);
let b = [a,
  f(1)];
print(b);
"""


def line_before(program, machine):
    """The line that the next instruction tells, told from the text alone."""
    if machine.state != "running":
        return None
    frame = machine.frames[0]
    row = program.chunks[frame.number].rows[frame.at]
    silent = ("const", "load", "save", "pop", "jump", "unless", "both", "either", "list", "closure", "declare", "blank",
              "drop", "method", "next", "enter", "leave", "escape", "ret")
    if row[0] in silent:
        return None
    return place_of(program.text, program.functions[frame.number].offset + row[-1])[0]


def expected_steps(program, machine, lines, mode, most):
    """How many steps running makes, told step by step on a machine of its own."""
    machine = machine.fork()
    calls, start = len(machine.frames), line_before(program, machine)
    made = 0
    while made < most and machine.status() == "running":
        machine.step()
        made += 1
        line, now = line_before(program, machine), len(machine.frames)
        if mode == "break" and line in lines and line is not None:
            break
        if mode != "break" and now < calls:
            break
        if mode == "over" and now == calls and line is not None and line != start:
            break
    return made


class RunTest(unittest.TestCase):
    def setUp(self):
        self.program = Program(TEXT)

    def lines_stopped_at(self, mode, lines=(), count=0, most=10 ** 6):
        """The lines at which running stops, again and again up to the end."""
        machine = self.program.after([], count)
        found = []
        while machine.status() == "running":
            run_on(self.program, machine, list(lines), mode, most)
            found.append((line_before(self.program, machine), len(machine.frames)))
        return found

    def test_break(self):
        # Each call of f comes to line 2 once: there stands one instruction that tells an offset. Line 4 has none.
        self.assertEqual(self.lines_stopped_at("break", [2, 4]), [(2, 2), (2, 3), (2, 4), (2, 2), (2, 3), (None, 0)])
        self.assertEqual(self.lines_stopped_at("break", [9, 6]), [(6, 1), (9, 1), (None, 0)])
        self.assertEqual(self.lines_stopped_at("break", []), [(None, 0)])
        self.assertEqual(self.lines_stopped_at("break", [1, 99, 4001]), [(None, 0)])

    def test_break_stops_at_each_instruction_of_the_line(self):
        # Line 3 tells three offsets: of the call, the difference and the sum.
        found = self.lines_stopped_at("break", [3])
        self.assertEqual(found, [(3, 2), (3, 2), (3, 3), (3, 3), (3, 3), (3, 2), (3, 2), (3, 2), (3, 2), (None, 0)])

    def test_a_step_is_made_even_at_a_breakpoint(self):
        machine = self.program.start([])
        run_on(self.program, machine, [5], "break", 100)
        self.assertEqual(line_before(self.program, machine), 5)
        before = machine.steps
        self.assertEqual(run_on(self.program, machine, [5], "break", 100) + before, machine.steps)
        self.assertEqual(machine.status(), "finished")

    def test_over(self):
        self.assertEqual(self.lines_stopped_at("over"), [(5, 1), (6, 1), (8, 1), (9, 1), (None, 0)])

    def test_over_within_a_call(self):
        machine = self.program.start([])
        run_on(self.program, machine, [2], "break", 100)
        stops = []
        while machine.status() == "running":
            run_on(self.program, machine, [], "over", 100)
            stops.append((line_before(self.program, machine), len(machine.frames)))
        # The end of the call is a reason to stop, wherever the program goes on.
        self.assertEqual(stops, [(3, 2), (None, 1), (6, 1), (8, 1), (9, 1), (None, 0)])

    def test_out(self):
        machine = self.program.start([])
        for _ in range(3):
            run_on(self.program, machine, [2], "break", 100)
        self.assertEqual(len(machine.frames), 4)
        depths = []
        while machine.status() == "running":
            run_on(self.program, machine, [2], "out", 100)
            depths.append(len(machine.frames))
        self.assertEqual(depths, [3, 2, 1, 0])

    def test_the_bound(self):
        for mode in ("break", "over", "out"):
            for most in (0, 1, 2, 5):
                machine = self.program.start([])
                made = run_on(self.program, machine, [], mode, most)
                self.assertEqual(made, expected_steps(self.program, self.program.start([]), [], mode, most))
                self.assertEqual(machine.steps, made)
                self.assertLessEqual(made, most)

    def test_no_step_after_the_end_or_while_waiting(self):
        for text, status in (("print(1);", "finished"), ("throw 1;", "failed"), ("read();", "waiting")):
            program = Program(text)
            machine = program.after([], 100)
            before = state(machine)
            for mode in ("break", "over", "out"):
                self.assertEqual(run_on(program, machine, [1], mode, 100), 0)
                self.assertEqual((machine.status(), state(machine)), (status, before))

    def test_a_program_that_begins_to_wait(self):
        for mode in ("break", "over", "out"):
            program = Program("let a = 1; a = read(); a = 2;")
            machine = program.start([])
            made = run_on(program, machine, [], mode, 100)
            self.assertEqual((made, machine.status()), (3, "waiting"))
            machine.store.lines.append("x")
            run_on(program, machine, [], mode, 100)
            self.assertEqual(machine.status(), "finished")

    def test_a_program_that_fails(self):
        program = Program("fun f() {\n throw 1;\n}\nf();\n")
        for mode, lines in (("break", [99]), ("out", [])):
            machine = program.start([])
            run_on(program, machine, lines, mode, 100)
            self.assertEqual((machine.status(), machine.frames), ("failed", []))

    def test_frames_that_end_by_a_throw(self):
        program = Program("fun f() {\n g();\n}\nfun g() {\n throw 1;\n}\ntry { f(); }\ncatch (e) {\n print(e);\n}\n")
        machine = program.start([])
        run_on(program, machine, [5], "break", 100)
        self.assertEqual(len(machine.frames), 3)
        run_on(program, machine, [], "out", 100)
        self.assertEqual((len(machine.frames), machine.frames[0].stack), (1, [1]))

    def test_a_program_that_never_ends(self):
        program = Program("while (true) {\n}\n")
        for mode in ("break", "over", "out"):
            machine = program.start([])
            self.assertEqual(run_on(program, machine, [1, 2], mode, 5000), 5000)
            self.assertEqual((machine.status(), machine.steps), ("running", 5000))

    def test_from_every_step(self):
        machine = self.program.start([])
        while True:
            for mode in ("break", "over", "out"):
                for lines in ([], [2], [3, 8]):
                    for most in (3, 1000):
                        other = machine.fork()
                        expected = expected_steps(self.program, machine, lines, mode, most)
                        self.assertEqual(run_on(self.program, other, lines, mode, most), expected)
                        self.assertEqual(other.steps, machine.steps + expected)
            if not machine.step():
                break

    def test_chance_programs(self):
        for text in programs(63, 30):
            text = text.replace("; ", ";\n").replace("{ ", "{\n")
            program = Program(text)
            machine = program.start(["7"])
            for _ in range(12):
                for mode in ("break", "over", "out"):
                    other = machine.fork()
                    lines = [3, 7, 12, 20, 21, 22]
                    expected = expected_steps(program, machine, lines, mode, 300)
                    self.assertEqual(run_on(program, other, lines, mode, 300), expected, text)
                machine.run(9)

    def test_arguments_stay(self):
        lines = [2]
        machine = self.program.start([])
        run_on(self.program, machine, lines, "break", 100)
        self.assertEqual(lines, [2])


if __name__ == "__main__":
    unittest.main()
