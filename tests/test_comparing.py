"""Previews of edits, the steps that agree, and blame: points [72] to [74]."""

import unittest

from histories import history
from livequill.asking.program import Program
from livequill.errors import InvalidOffset, InvalidText, NoSuchOutput, TooLong
from livequill.live.comparing import blame, preview
from livequill.live.live import Live
from livequill.names.places import changed
from lives import Deeds, answers, refused
from machines import state
from programs import programs

TEXT = """let total = 0;
fun add(n) { total = total + n; return total; }
fun never() { return 9; }
print("start");
for (n in [1, 2, 3]) { print(add(n)); }
print(read());
print("end");
"""


def edit_of(text, old, new):
    """The edit that replaces the first place of a part of a text."""
    start = text.index(old)
    return start, start + len(old), new


def expected_preview(live, start, stop, new):
    """What a preview tells, by a new live program and by single steps."""
    program = Program(changed(live.text_now(), start, stop, new))
    changes = [
        number for number in range(len(program.functions))
        if number >= len(live.program.functions) or program.chunks[number].rows != live.program.chunks[number].rows
        or program.chunks[number].wanted != live.program.chunks[number].wanted]
    steps = history(live.program, live.lines, live.steps_made())
    other = [step for step in steps if step.functions[0] in changes or step.functions[0] >= len(program.functions)]
    after = program.after(live.lines, live.steps_made()).store.output
    before = live.output_lines()
    differing = [at for at in range(max(len(after), len(before))) if before[at:at + 1] != after[at:at + 1]]
    return changes, other[0].number - 1 if other else len(steps), differing[0] if differing else None


class PreviewTest(unittest.TestCase):
    def preview(self, live, start, stop, new):
        """The preview of an edit, checked against what is told without it; the live program must stay as it is."""
        before, past = answers(live), list(live.past)
        found = preview(live, start, stop, new)
        self.assertIsInstance(found, tuple)
        self.assertEqual((answers(live), live.past), (before, past))
        self.assertEqual(found, expected_preview(live, start, stop, new))
        return found

    def live(self, steps=10000, lines=("in",)):
        live = Live(TEXT)
        for line in lines:
            live.feed(line)
        live.step(steps)
        return live

    def test_an_edit_of_a_function(self):
        live = self.live()
        changes, agree, line = self.preview(live, *edit_of(TEXT, "total + n", "total - n"))
        self.assertEqual((changes, line), ([1], 1))
        self.assertEqual(agree, live.visits(2)[0] - 3)
        self.assertEqual(live.trace(agree + 1, agree + 1)[0][0][0], 1)

    def test_an_edit_that_changes_nothing_that_was_executed(self):
        live = self.live()
        self.assertEqual(self.preview(live, *edit_of(TEXT, "9", "8")), ([2], live.steps_made(), None))

    def test_an_edit_of_the_program(self):
        live = self.live()
        self.assertEqual(self.preview(live, *edit_of(TEXT, "\"end\"", "\"fin\"")), ([0], 0, 5))
        self.assertEqual(self.preview(live, 0, 0, "\n"), ([0], 0, None))
        self.assertEqual(self.preview(live, 5, 5, ""), ([], live.steps_made(), None))
        self.assertEqual(self.preview(live, len(TEXT), len(TEXT), "print(1);"), ([0], 0, 6))

    def test_outputs_of_other_lengths(self):
        live = self.live()
        self.assertEqual(self.preview(live, *edit_of(TEXT, "print(\"end\");", ""))[2], 5)
        live.go(live.printed(3))
        # Where the steps suffice for fewer lines, the first line that is not there differs.
        self.assertEqual(self.preview(live, 0, 0, "let more = [1, 2, 3, 4]; ")[2], 3)
        self.assertEqual(self.preview(live, *edit_of(TEXT, "let total = 0", "let total = 5"))[2], 1)
        live.go(0)
        self.assertEqual(self.preview(live, 0, 0, "print(1);"), ([0], 0, None))

    def test_a_longer_output(self):
        live = Live("fun f() { let a = 1 + 1 + 1 + 1; print(1); } f(); f();")
        live.step(40)
        self.assertEqual(self.preview(live, *edit_of(live.text_now(), " + 1 + 1 + 1", ""))[2], None)
        live.go(live.printed(0) + 1)
        self.assertEqual(len(live.output_lines()), 1)
        found = self.preview(live, *edit_of(live.text_now(), "let a = 1 + 1 + 1 + 1;", "print(1);"))
        self.assertEqual(found[2], 1)

    def test_a_number_that_no_function_has_any_more(self):
        live = Live("print(1); let f = fun () { return 2; }; f();")
        live.step(1000)
        found = self.preview(live, *edit_of(live.text_now(), "fun () { return 2; }", "print"))
        self.assertEqual(found[:2], ([0], 0))

    def test_errors(self):
        live = self.live()
        before = answers(live)
        size = len(TEXT)
        cases = [
            ((-1, 0, ""), InvalidOffset), ((0, size + 1, ""), InvalidOffset), ((5, 4, "(" * 5000), InvalidOffset),
            ((0, 0, "(" * (4001 - size)), TooLong), ((0, 0, "y; "), (InvalidText, 0, "y is not declared")),
            ((0, 3, "le"), (InvalidText, 3, "expected ;")),
        ]
        for values, expected in cases:
            with self.subTest(values):
                self.assertEqual(refused(live.edit, *values), refused(preview, live, *values))
                self.assertEqual(refused(preview, live, *values), expected)
        self.assertEqual(answers(live), before)

    def test_the_steps_that_agree(self):
        """Two machines are the same before each step that agrees, but for the code."""
        live = self.live()
        for values in (edit_of(TEXT, "total + n", "total - n"), edit_of(TEXT, "9", "8"), edit_of(TEXT, "return total", "return 0")):
            _, agree, _ = self.preview(live, *values)
            old = live.program.start(live.lines)
            new = Program(changed(TEXT, *values)).start(live.lines)
            for _ in range(agree):
                self.assertEqual(state(old), state(new))
                old.step()
                new.step()
            self.assertEqual(state(old), state(new))

    def test_chance_edits(self):
        for seed, text in enumerate(programs(73, 15)):
            text = text.replace("; ", ";\n")
            if len(text) > 3900:
                continue
            live, deeds = Live(text), Deeds(seed)
            live.feed("7")
            live.step(300)
            for _ in range(12):
                values = deeds.edit(text)
                error = refused(preview, live, *values)
                if error is None:
                    found = preview(live, *values)
                    self.assertEqual(found, expected_preview(live, *values))
                    other = Live(text)
                    other.feed("7")
                    other.step(300)
                    self.assertEqual(other.edit(*values), found[0])
                else:
                    self.assertEqual(refused(live.edit, *values), error)


class BlameTest(unittest.TestCase):
    def edited(self, live, old, new):
        live.edit(*edit_of(live.text_now(), old, new))

    def blames(self, live):
        before, past = answers(live), list(live.past)
        found = [blame(live, index) for index in range(len(live.output_lines()))]
        self.assertEqual((answers(live), live.past), (before, past))
        return found

    def test_each_line_has_its_edit(self):
        live = Live("print(\"a\"); print(\"b\"); print(\"c\");")
        live.step(1000)
        self.assertEqual(self.blames(live), [None, None, None])
        self.edited(live, "\"b\"", "\"bb\"")
        self.assertEqual(self.blames(live), [None, 1, None])
        self.edited(live, "\"c\"", "\"cc\"")
        self.assertEqual(self.blames(live), [None, 2, 1])
        self.edited(live, "print(\"a\")", "print(\"a\" )")
        self.assertEqual(self.blames(live), [None, 3, 2])
        live.undo()
        self.assertEqual(self.blames(live), [None, 2, 1])

    def test_a_line_that_came_and_went(self):
        live = Live("print(1);")
        for number in (2, 1, 1, 3, 1):
            live.edit(6, 7, str(number))
        live.step(100)
        # The texts before are 3, 1, 1, 2 and 1: the first one that prints another line counts.
        self.assertEqual(self.blames(live), [1])
        live.edit(9, 9, " ")
        self.assertEqual(self.blames(live), [2])

    def test_an_output_that_was_shorter(self):
        live = Live("print(1);")
        live.edit(9, 9, " print(2);")
        live.edit(0, 0, "let x = 1; ")
        live.step(100)
        self.assertEqual(self.blames(live), [None, 2])

    def test_an_earlier_program_runs_on(self):
        live = Live("let n = 0; while (n < 500) n = n + 1; print(n);")
        self.edited(live, "while (n < 500) n = n + 1;", "n = 500;")
        live.step(100)
        self.assertLess(live.steps_made(), 20)
        self.assertEqual(self.blames(live), [None])

    def test_the_bound_of_steps(self):
        # A round takes 10 steps: 1900 of them can be made, 2100 cannot.
        for rounds, expected in ((1900, None), (2100, 1)):
            live = Live(f"let n = 0; while (n < {rounds}) n = n + 1; print(5);")
            self.edited(live, f"n < {rounds}", "n < 0")
            live.step(100)
            self.assertEqual(live.output_lines(), ["5"])
            self.assertEqual(self.blames(live), [expected])

    def test_exactly_the_bound(self):
        text = "let n = 0; while (n < 1995) n = n + 1; {}print(5);"
        for extra in range(40):
            live = Live(text.replace("{}", "1;" * extra))
            machine = live.program.start([])
            while not machine.store.output:
                machine.step()
            self.edited(live, "1995", "0")
            live.step(1000)
            self.assertEqual(self.blames(live), [None if machine.steps <= 20000 else 1], machine.steps)
        self.assertGreater(machine.steps, 20000)

    def test_lines_of_input(self):
        live = Live("print(read()); print(\"x\");")
        self.edited(live, "print(read())", "print(\"in\")")
        live.step(1000)
        # The earlier program waits for a line, so it comes to no line of output.
        self.assertEqual(self.blames(live), [1, 1])
        live.feed("in")
        self.assertEqual(self.blames(live), [None, None])
        live.unfeed()
        live.feed("other")
        self.assertEqual(self.blames(live), [1, None])

    def test_an_earlier_program_that_fails(self):
        live = Live("print(1); throw 2; print(3);")
        self.edited(live, "throw 2; ", "")
        live.step(1000)
        self.assertEqual(self.blames(live), [None, 1])

    def test_edits_that_are_forgotten(self):
        live = Live("print(0);")
        for number in range(1, 23):
            live.edit(6, len(live.text_now()) - 2, "1" + " " * number)
        live.step(100)
        self.assertEqual(len(live.past), 20)
        self.assertEqual(self.blames(live), [None])

    def test_errors(self):
        live = Live("print(1);")
        for index in (-1, 0, 5):
            self.assertEqual(refused(blame, live, index), NoSuchOutput)
        live.step(100)
        self.assertEqual(refused(blame, live, 1), NoSuchOutput)
        self.assertIsNone(blame(live, 0))


if __name__ == "__main__":
    unittest.main()
