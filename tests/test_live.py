"""Live programs: points [69] to [71] and [77]."""

import unittest

from histories import history
from livequill.asking.program import Program
from livequill.asking.searches import changes_of, coverage_of, printed_by, profile_of, trace_of, visits_of
from livequill.errors import (
    InvalidCount, InvalidLine, InvalidMode, InvalidOffset, InvalidText, NoSuchCall, NoSuchOutput, NoSuchVariable, TooLong,
    TooManyLines,
)
from livequill.live.live import Live
from lives import Deeds, answers, like, refused, short_answers
from machines import state
from programs import programs

TEXT = """let total = 0;
fun add(n) {
  total = total + n;
  return total;
}
for (n in [1, 2, 3]) {
  print(add(n));
}
print(read());
print(total);
"""
LOOP = "let n = 0; while (true) n = n + 1;"


class LiveCase(unittest.TestCase):
    def check_like_a_new_one(self, live):
        self.assertEqual(answers(live), answers(like(live)))

    def check_refused(self, live, expected, action, *values):
        """Checks the error of a call, and that it changes nothing."""
        before, past = short_answers(live), list(live.past)
        self.assertEqual(refused(action, *values), expected)
        self.assertEqual((short_answers(live), live.past), (before, past))


class BeginningTest(LiveCase):
    def test_a_new_one(self):
        live = Live(TEXT)
        self.assertEqual((live.text_now(), live.steps_made(), live.output_lines(), live.status()), (TEXT, 0, [], "running"))
        self.assertEqual((live.lines, live.breaks, live.past), ([], [], []))
        self.assertEqual((live.program.text, live.machine.steps), (TEXT, 0))
        self.assertEqual((live.where(), live.failure(), live.variables(0)), ([(0, 1, 1)], None, []))

    def test_texts_that_are_refused(self):
        self.assertEqual(refused(Live, " " * 4001), TooLong)
        self.assertEqual(refused(Live, "(" * 4001), TooLong)
        self.assertEqual(refused(Live, "let"), (InvalidText, 3, "expected a name"))
        self.assertEqual(refused(Live, "x;\ny;"), (InvalidText, 0, "x is not declared"))
        self.assertEqual(Live(" " * 4000).text_now(), " " * 4000)
        self.assertEqual(refused(Live, "(" * 4000), (InvalidText, 29, "nested too deeply"))
        self.assertEqual(refused(Live, "1+" * 1999 + "1;"), (InvalidText, 0, "nested too deeply"))

    def test_the_machine_makes_steps_of_the_live_program(self):
        live = Live(TEXT)
        live.machine.step()
        live.machine.run(4)
        self.assertEqual(live.steps_made(), 5)
        self.assertEqual(len(live.trace(1, 5)), 5)
        self.check_like_a_new_one(live)


class StepTest(LiveCase):
    def test_step(self):
        live = Live(TEXT)
        self.assertEqual((live.step(3), live.steps_made()), ("running", 3))
        self.assertEqual((live.step(0), live.steps_made()), ("running", 3))
        self.check_like_a_new_one(live)
        self.assertEqual(live.step(20000), "waiting")
        made = live.steps_made()
        self.assertEqual((live.step(10), live.steps_made(), live.output_lines()), ("waiting", made, ["1", "3", "6"]))

    def test_go(self):
        live = Live(TEXT)
        for count in (10, 50, 20, 20, 0, 1000, 7):
            live.go(count)
            self.assertEqual(state(live.machine), state(Program(TEXT).after([], count)))
            self.check_like_a_new_one(live)
        self.assertEqual((live.go(20000), live.go(0), live.go(1)), ("waiting", "running", "running"))
        self.assertEqual(live.steps_made(), 1)

    def test_bounds(self):
        live = Live(LOOP)
        self.assertEqual((live.step(20000), live.steps_made()), ("running", 20000))
        self.assertEqual((live.step(20000), live.steps_made()), ("running", 20000))
        self.assertEqual((live.run("out"), live.steps_made()), ("running", 20000))
        self.assertEqual((live.go(20000), live.steps_made()), ("running", 20000))
        live.go(19990)
        self.assertEqual((live.step(20), live.steps_made()), ("running", 20000))
        for action in (live.step, live.go):
            for count in (-1, 20001, -20000, 10 ** 9):
                self.check_refused(live, InvalidCount, action, count)

    def test_the_end(self):
        live = Live("print(1); throw \"a\";")
        self.assertEqual((live.step(100), live.status()), ("failed", "failed"))
        self.assertEqual((live.failure(), live.where()), (("\"a\"", [(0, 1, 11)]), []))
        self.assertEqual(Live("1;").go(100), "finished")
        self.check_like_a_new_one(live)


class RunTest(LiveCase):
    def test_modes(self):
        live = Live(TEXT)
        live.set_breaks([3, 10])
        self.assertEqual((live.run("break"), live.where()), ("running", [(1, 3, 17), (0, 7, 12)]))
        self.assertEqual(live.run("break"), "running")
        self.assertEqual((live.run("out"), live.where()), ("running", [(0, 7, 8)]))
        self.assertEqual((live.run("over"), live.where()), ("waiting", [(0, 9, 11)]))
        made = live.steps_made()
        self.assertEqual((live.run("break"), live.steps_made()), ("waiting", made))
        live.feed("line")
        self.assertEqual((live.run("break"), live.where()), ("running", [(0, 10, 6)]))
        self.assertEqual((live.run("break"), live.output_lines()), ("finished", ["1", "3", "6", "line", "6"]))
        self.check_like_a_new_one(live)

    def test_bounds(self):
        live = Live(LOOP)
        for expected in (5000, 10000, 15000, 20000, 20000):
            self.assertEqual((live.run("break"), live.steps_made()), ("running", expected))
        live.go(18000)
        live.run("over")
        self.assertLessEqual(live.steps_made(), 20000)
        live.go(18000)
        live.run("out")
        self.assertEqual(live.steps_made(), 20000)

    def test_modes_that_are_not_there(self):
        live = Live(TEXT)
        for mode in ("", "Break", "in", "over "):
            self.check_refused(live, InvalidMode, live.run, mode)

    def test_breakpoints(self):
        live = Live(TEXT)
        lines = [9, 1, 4001, 9]
        self.assertIsNone(live.set_breaks(lines))
        lines.clear()
        self.assertEqual(live.breaks, [9, 1, 4001, 9])
        for wrong in ([0], [-1], [4002], [5, 4002], list(range(1, 22)), [1] * 21):
            self.check_refused(live, InvalidLine, live.set_breaks, wrong)
        live.set_breaks(list(range(1, 21)))
        self.assertEqual(live.breaks, list(range(1, 21)))
        live.edit(0, 0, "\n")
        self.assertEqual(live.breaks, list(range(1, 21)))
        live.set_breaks([])
        self.assertEqual(live.breaks, [])


class EditTest(LiveCase):
    def test_an_edit(self):
        live = Live(TEXT)
        live.step(100)
        at = TEXT.index("total + n")
        self.assertEqual(live.edit(at, at + 9, "total - n"), [1])
        self.assertEqual(live.output_lines(), ["-1", "-3", "-6"])
        self.assertEqual((live.past, live.text_now()), ([TEXT], TEXT.replace("total + n", "total - n")))
        self.check_like_a_new_one(live)

    def test_changed_functions(self):
        live = Live(TEXT)
        self.assertEqual(live.edit(0, 0, "\n"), [0])
        self.assertEqual(live.edit(0, 1, ""), [0])
        self.assertEqual(live.edit(len(TEXT), len(TEXT), "\n// nothing\n"), [])
        self.assertEqual(live.edit(len(TEXT), len(TEXT), "print(fun () { });"), [0, 2])
        self.assertEqual(live.edit(0, 0, "fun first() { } "), [0, 1, 2, 3])

    def test_the_number_of_steps_may_become_smaller(self):
        live = Live(TEXT)
        live.step(60)
        self.assertEqual(live.steps_made(), 60)
        live.edit(0, len(TEXT), "print(1);")
        self.assertEqual((live.steps_made(), live.status(), live.output_lines()), (6, "finished", ["1"]))
        self.check_like_a_new_one(live)
        # The steps that were lost do not come back.
        self.assertIs(live.undo(), True)
        self.assertEqual((live.text_now(), live.steps_made()), (TEXT, 6))
        self.check_like_a_new_one(live)

    def test_edits_that_are_refused(self):
        live = Live(TEXT)
        live.step(20)
        size = len(TEXT)
        for start, stop in ((-1, 0), (0, size + 1), (size + 1, size + 1), (5, 4), (-2, -1), (size, 0)):
            self.check_refused(live, InvalidOffset, live.edit, start, stop, "x")
        # The offsets count ahead of the length, the length ahead of the faults.
        self.check_refused(live, InvalidOffset, live.edit, 5, 4, "(" * 5000)
        self.check_refused(live, TooLong, live.edit, 0, 0, "(" * (4001 - size))
        self.check_refused(live, (InvalidText, 29, "nested too deeply"), live.edit, 0, 0, "(" * (4000 - size))
        self.check_refused(live, (InvalidText, 0, "y is not declared"), live.edit, 0, 0, "y; ")
        # The offsets that the program tells begin at 0, those of a function at its own beginning.
        self.assertEqual(live.edit(0, 0, "\n" * (4000 - size)), [0])
        self.assertEqual(len(live.text_now()), 4000)

    def test_an_edit_that_changes_nothing_is_an_edit(self):
        live = Live(TEXT)
        self.assertEqual(live.edit(3, 3, ""), [])
        self.assertEqual(live.past, [TEXT])
        self.assertEqual(live.edit(len(TEXT), len(TEXT), ""), [])
        self.assertEqual(live.past, [TEXT, TEXT])

    def test_undo(self):
        live = Live("print(1);")
        texts = ["print(1);"]
        for number in range(2, 25):
            live.edit(6, len(live.text_now()) - 2, str(number))
            texts.insert(0, live.text_now())
        self.assertEqual(live.past, texts[1:21])
        for text in texts[1:21]:
            self.assertIs(live.undo(), True)
            self.assertEqual(live.text_now(), text)
        self.assertEqual((live.text_now(), live.past), ("print(4);", []))
        self.check_refused(live, None, live.undo)
        self.assertIs(live.undo(), False)

    def test_undo_runs_as_far_as_before(self):
        live = Live(TEXT)
        live.step(60)
        live.edit(0, 0, "// a line\n")
        live.edit(0, 0, "print(0);\n")
        for _ in range(2):
            self.check_like_a_new_one(live)
            live.undo()
        self.assertEqual((live.text_now(), live.steps_made()), (TEXT, 60))
        self.check_like_a_new_one(live)


class InputTest(LiveCase):
    def test_feed(self):
        live = Live("print(read()); print(read());")
        self.assertEqual(live.step(100), "waiting")
        made = live.steps_made()
        self.assertIsNone(live.feed("a"))
        self.assertEqual((live.status(), live.steps_made(), live.lines), ("running", made, ["a"]))
        self.check_like_a_new_one(live)
        self.assertEqual((live.step(100), live.output_lines()), ("waiting", ["a"]))
        live.feed("b")
        live.feed("c")
        self.assertEqual((live.step(100), live.output_lines()), ("finished", ["a", "b"]))
        self.check_like_a_new_one(live)

    def test_unfeed(self):
        live = Live("print(read()); print(read()); print(3);")
        for line in ("a", "b", "c"):
            live.feed(line)
        live.step(100)
        end = live.steps_made()
        self.assertIs(live.unfeed(), True)
        self.assertEqual((live.lines, live.steps_made(), live.status()), (["a", "b"], end, "finished"))
        self.check_like_a_new_one(live)
        self.assertIs(live.unfeed(), True)
        self.assertEqual((live.lines, live.output_lines(), live.status()), (["a"], ["a"], "waiting"))
        self.assertLess(live.steps_made(), end)
        self.check_like_a_new_one(live)
        self.assertIs(live.unfeed(), True)
        self.assertEqual((live.lines, live.steps_made()), ([], 2))
        self.check_refused(live, None, live.unfeed)
        self.assertIs(live.unfeed(), False)

    def test_a_line_that_was_read_is_another_one(self):
        live = Live("let n = int(read()); while (n > 0) n = n - 1; print(n);")
        live.feed("5")
        live.step(1000)
        live.unfeed()
        live.feed("1")
        self.check_like_a_new_one(live)
        self.assertEqual(live.steps_made(), 2)

    def test_bounds(self):
        live = Live("read();")
        self.check_refused(live, TooLong, live.feed, "x" * 201)
        for number in range(50):
            live.feed("x" * 200)
        self.assertEqual(len(live.lines), 50)
        self.check_refused(live, TooManyLines, live.feed, "")
        self.check_refused(live, TooLong, live.feed, "x" * 201)
        live.unfeed()
        live.feed("")
        self.assertEqual(live.lines[-1], "")


class QuestionsTest(LiveCase):
    def setUp(self):
        self.live = Live(TEXT)
        self.live.feed("in")
        self.live.set_breaks([4])
        self.live.step(40)
        self.program = Program(TEXT)

    def within_a_call(self):
        live = Live(TEXT)
        while len(live.machine.frames) < 2:
            live.step(1)
        live.step(3)
        return live

    def test_calls(self):
        live = self.within_a_call()
        expected = [("n", "1"), ("add", "<function>"), ("total", "0")]
        self.assertEqual((live.variables(0), live.variables(1)), (expected, expected))
        self.assertEqual(live.where(), [(1, 3, 17), (0, 7, 12)])
        for index in (-1, 2, 99):
            self.check_refused(live, NoSuchCall, live.variables, index)
            self.check_refused(live, NoSuchCall, live.evaluate, index, "(" * 5000)
            self.check_refused(live, NoSuchCall, live.changes, index, "nothing")

    def test_calls_after_the_end(self):
        live = Live("1;")
        live.step(100)
        self.check_refused(live, NoSuchCall, live.variables, 0)
        self.check_refused(live, NoSuchCall, live.evaluate, 0, "1")
        self.check_refused(live, NoSuchCall, live.changes, 0, "x")
        self.assertEqual(live.where(), [])

    def test_evaluate(self):
        live = self.within_a_call()
        self.assertEqual(live.evaluate(0, "n + total"), ("finished", "1"))
        self.assertEqual(live.evaluate(1, "add(5)"), ("finished", "5"))
        self.check_refused(live, None, live.evaluate, 1, "add(5)")
        self.check_refused(live, TooLong, live.evaluate, 0, "(" * 4001)
        self.check_refused(live, (InvalidText, 30, "nested too deeply"), live.evaluate, 0, "(" * 4000)
        self.check_refused(live, (InvalidText, 4, "x is not declared"), live.evaluate, 0, "1 + x")
        self.assertEqual(live.evaluate(0, "1" + " " * 3999), ("finished", "1"))

    def test_changes(self):
        live = self.live
        steps = history(self.program, ["in"], 40)
        number = [step for step in steps if step.row == ("declare",)][0].made[0]
        expected = [step.number for step in steps if number in step.made or step.set == number]
        self.assertEqual(live.changes(0, "total"), expected)
        self.assertGreater(len(expected), 2)
        for name in ("", "super", "nothing", "print", "this"):
            self.check_refused(live, NoSuchVariable, live.changes, 0, name)

    def test_hidden_variables_have_no_changes(self):
        live = Live("class A { m() { for (x in [1]) { print(x); } } } class B extends A { m() { super.m(); } } B().m();")
        while not live.output_lines():
            live.step(1)
        self.assertIn("", live.program.chunks[1].scopes[live.machine.frames[0].at])
        for index in range(2):
            for name in ("", "super"):
                self.check_refused(live, NoSuchVariable, live.changes, index, name)
        self.assertEqual(len(live.changes(1, "this")), 1)

    def test_lines_and_output(self):
        live = self.live
        for line in (1, 3, 4001):
            self.assertEqual(live.visits(line), visits_of(self.program, ["in"], 40, line))
        for line in (0, -1, 4002):
            self.check_refused(live, InvalidLine, live.visits, line)
        self.assertEqual(live.printed(0), printed_by(self.program, ["in"], 40, 0))
        for index in (-1, len(live.output_lines()), 1000):
            self.check_refused(live, NoSuchOutput, live.printed, index)

    def test_profile_coverage_and_trace(self):
        live = self.live
        self.assertEqual(live.profile(), profile_of(self.program, ["in"], 40))
        self.assertEqual(live.coverage(), coverage_of(self.program, ["in"], 40))
        self.assertEqual(live.trace(3, 40), trace_of(self.program, ["in"], 3, 40))
        self.assertEqual(live.changes(0, "add"), changes_of(self.program, ["in"], 40, live.machine.frames[0].scope[-2]))

    def test_the_bounds_of_a_trace(self):
        live = Live(LOOP)
        self.check_refused(live, InvalidCount, live.trace, 1, 1)
        self.check_refused(live, InvalidCount, live.trace, 0, 0)
        live.step(300)
        self.assertEqual(len(live.trace(1, 100)), 100)
        self.assertEqual(len(live.trace(201, 300)), 100)
        self.assertEqual(len(live.trace(300, 300)), 1)
        for first, last in ((0, 5), (-1, 5), (1, 101), (5, 4), (301, 301), (300, 301), (202, 302), (1, 300)):
            self.check_refused(live, InvalidCount, live.trace, first, last)

    def test_lists_that_are_returned_are_new(self):
        live = self.live
        before = answers(live)
        for found in (live.output_lines(), live.where(), live.variables(0), live.changes(0, "total"), live.visits(1),
                      live.profile(), live.coverage(), live.trace(1, 5)):
            found.clear()
        self.assertEqual(answers(live), before)


class ChanceTest(LiveCase):
    def deeds_on(self, text, seed, many):
        live, deeds = Live(text), Deeds(seed)
        for number in range(many):
            before = short_answers(live), list(live.past)
            if refused(deeds.do, live) is not None:
                self.assertEqual((short_answers(live), live.past), before)
            self.assertEqual(short_answers(live), short_answers(like(live)))
            if number % 20 == 0:
                self.check_like_a_new_one(live)
        self.check_like_a_new_one(live)

    def test_a_program(self):
        for seed in range(6):
            self.deeds_on(TEXT, seed, 60)

    def test_chance_programs(self):
        for seed, text in enumerate(programs(77, 12)):
            if len(text) <= 4000:
                self.deeds_on(text.replace("; ", ";\n"), seed, 30)


if __name__ == "__main__":
    unittest.main()
