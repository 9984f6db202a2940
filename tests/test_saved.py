"""Live programs as texts: points [75] to [77]."""

import unittest

from livequill.errors import InvalidSave, LivequillError
from livequill.live.comparing import blame
from livequill.live.live import Live
from livequill.live.saved import load_live, save_live
from lives import Deeds, answers, refused, short_answers
from programs import programs

TEXT = "print(1);\nprint(read());\nprint(3);\n"


def sample():
    live = Live(TEXT)
    live.feed("a line")
    live.feed("")
    live.edit(6, 7, "2")
    live.edit(0, 0, "\n")
    live.step(7)
    live.set_breaks([3, 4001])
    return live


PARTS = [
    "livequill 1\n",
    "text ", "36\n", "\nprint(2);\nprint(read());\nprint(3);\n", "\n",
    "lines ", "2\n", "6\n", "a line", "\n", "0\n", "", "\n",
    "steps ", "7\n",
    "breaks ", "2\n", "3\n", "4001\n",
    "past ", "2\n", "35\n", "print(2);\nprint(read());\nprint(3);\n", "\n", "35\n", TEXT, "\n",
]
SAVED = "".join(PARTS)
SMALL = "livequill 1\ntext 0\n\nlines 0\nsteps 0\nbreaks 0\npast 0\n"


def fault_of(text):
    """The fault of a saved text, or None if it is one."""
    try:
        load_live(text)
    except InvalidSave as error:
        return error.offset, error.message
    return None


def marked(text):
    """A text without its mark `@`, and the offset at which the mark stood."""
    return text.replace("@", ""), text.index("@")


class SaveTest(unittest.TestCase):
    def test_the_parts(self):
        self.assertEqual(save_live(sample()), SAVED)

    def test_a_new_one(self):
        self.assertEqual(save_live(Live("")), SMALL)
        self.assertEqual(save_live(Live("\n")), SMALL.replace("text 0\n", "text 1\n\n"))

    def test_the_live_program_stays(self):
        live = sample()
        before = answers(live), list(live.past)
        save_live(live)
        self.assertEqual((answers(live), live.past), before)

    def test_at_the_bounds(self):
        live = Live("while (true) {" + " " * 3984 + "}")
        for _ in range(25):
            live.edit(15, 16, " ")
        for number in range(50):
            live.feed("x" * 200)
        live.step(20000)
        live.set_breaks([4001] * 20)
        self.assertEqual(len(live.text_now()), 3999)
        text = save_live(live)
        self.assertEqual(save_live(load_live(text)), text)
        self.assertIn("steps 20000\nbreaks 20\n4001\n", text)
        self.assertIn("past 20\n3999\n", text)


class LoadTest(unittest.TestCase):
    def test_what_is_loaded(self):
        live = load_live(SAVED)
        self.assertIsInstance(live, Live)
        self.assertEqual((live.text_now(), live.lines, live.breaks), (PARTS[3], ["a line", ""], [3, 4001]))
        self.assertEqual((live.past, live.steps_made()), ([PARTS[22], TEXT], 7))
        self.assertEqual(answers(live), answers(sample()))
        self.assertEqual(save_live(live), SAVED)
        self.assertEqual(answers(load_live(SMALL)), answers(Live("")))

    def test_a_loaded_one_goes_on_in_the_same_way(self):
        for seed in range(8):
            live, deeds = Live(TEXT), Deeds(seed)
            for _ in range(25):
                refused(deeds.do, live)
            self.check_going_on(live, seed + 100)

    def test_chance_programs(self):
        for seed, text in enumerate(programs(75, 10)):
            if len(text) <= 4000:
                live, deeds = Live(text), Deeds(seed)
                for _ in range(15):
                    refused(deeds.do, live)
                self.check_going_on(live, seed)

    def check_going_on(self, live, seed):
        text = save_live(live)
        other = load_live(text)
        self.assertEqual(save_live(other), text)
        self.assertEqual((answers(live), live.past), (answers(other), other.past))
        ours, theirs = Deeds(seed), Deeds(seed)
        for _ in range(15):
            self.assertEqual(refused(ours.do, live), refused(theirs.do, other))
            self.assertEqual((short_answers(live), live.past), (short_answers(other), other.past))
        for index in range(len(live.output_lines())):
            self.assertEqual(blame(live, index), blame(other, index))
        while live.undo():
            self.assertTrue(other.undo())
            self.assertEqual(short_answers(live), short_answers(other))
        self.assertEqual(save_live(live), save_live(other))

    def test_lines_may_have_any_characters(self):
        live = load_live(SMALL.replace("lines 0\n", "lines 2\n3\n\u00e4%\n\n5\nsteps\n"))
        self.assertEqual(live.lines, ["\u00e4%\n", "steps"])

    def test_comments_may_have_any_characters(self):
        live = load_live(SMALL.replace("text 0\n\n", "text 6\n// 5 %\n".replace("5", "\u20ac")))
        self.assertEqual(live.text_now(), "// \u20ac %")


class FaultsTest(unittest.TestCase):
    def check(self, text, message):
        text, offset = marked(text)
        with self.subTest(text):
            self.assertEqual(fault_of(text), (offset, message))

    def test_the_error(self):
        error = InvalidSave(3, "expected a number")
        self.assertIsInstance(error, LivequillError)
        self.assertEqual((error.offset, error.message), (3, "expected a number"))

    def test_words(self):
        self.check("@", "expected livequill 1")
        for wrong in ("livequill 1", "livequill 2\n", "livequill  1\n", " livequill 1\n", "Livequill 1\n", "livequill 1 \n",
                      "livequill 1\r\n"):
            self.check("@" + wrong, "expected livequill 1")
        for at, part in enumerate(PARTS):
            if part.endswith(" "):
                head, tail = "".join(PARTS[:at]), "".join(PARTS[at + 1:])
                for wrong in ("", " " + part, part[:-1] + "\n", part[:-1], part[1:], part.upper(), "x "):
                    if wrong + tail != part + tail:
                        self.check(head + "@" + wrong + tail, f"expected {part[:-1]}")

    def test_cut_off_behind_each_part(self):
        expected = {
            "livequill 1\n": "expected text", "text ": "expected a number", "36\n": "too few characters",
            "lines ": "expected a number", "6\n": "too few characters", "a line": "expected a newline",
            "": "expected a newline", "steps ": "expected a number", "7\n": "expected breaks", "breaks ": "expected a number",
            "3\n": "expected a number", "4001\n": "expected past", "past ": "expected a number",
            "35\n": "too few characters", TEXT: "expected a newline",
        }
        for at, part in enumerate(PARTS[:-1]):
            if part in expected and not (part == "" and PARTS[at - 1] != "0\n"):
                self.check("".join(PARTS[:at + 1]) + "@", expected[part])

    def test_cut_off_anywhere(self):
        for size in range(len(SAVED)):
            fault = fault_of(SAVED[:size])
            self.assertIsNotNone(fault)
            self.assertLessEqual(fault[0], size)
            self.assertEqual(fault_of(SAVED[:size]), fault)
        self.assertIsNone(fault_of(SAVED))

    def numbers(self):
        """For each number of the saved text what stands in front of it, and behind it, its newline included."""
        for at, part in enumerate(PARTS):
            if part[:-1].isdigit() and part.endswith("\n"):
                yield part[:-1], "".join(PARTS[:at]), "".join(PARTS[at + 1:])

    def test_numbers(self):
        for number, head, tail in self.numbers():
            for wrong in ("", "x", f" {number}", f"{number} ", f"{number}x", f"0{number}", "00", f"-{number}", "+1", "1.0", "0x1",
                          "\u0663", "1\u0663", "\u00b2", f"{number}\r", "99999999x", "9" * 5000 + "x", "0" * 5000):
                self.check(f"{head}@{wrong}\n{tail}", "expected a number")
            self.check(f"{head}@{number}", "expected a number")
            for wrong in ("99999", "100000", "9" * 300, "9" * 5000):
                self.check(f"{head}@{wrong}\n{tail}", "the number is too great")

    def test_bounds(self):
        for part, most in (("text", 4000), ("lines", 50), ("steps", 20000), ("breaks", 20), ("past", 20)):
            old = f"{part} 0\n"
            self.check(SMALL.replace(old, f"{part} @{most + 1}\n"), "the number is too great")
            offset, message = fault_of(SMALL.replace(old, f"{part} {most}\n"))
            self.assertNotEqual(message, "the number is too great")
        self.check(SMALL.replace("lines 0\n", "lines 1\n@201\n"), "the number is too great")
        self.check(SMALL.replace("lines 0\n", "lines 1\n200\n@abc\n"), "too few characters")
        self.check(SMALL.replace("past 0\n", "past 1\n@4001\n"), "the number is too great")
        self.check(SMALL.replace("breaks 0\n", "breaks 1\n@4002\n"), "the number is too great")
        self.assertIsNone(fault_of(SMALL.replace("breaks 0\n", "breaks 1\n4001\n")))

    def test_breakpoints(self):
        self.check(SMALL.replace("breaks 0\n", "breaks 1\n@0\n"), "expected the number of a line")
        self.check(SMALL.replace("breaks 0\n", "breaks 2\n5\n@0\n"), "expected the number of a line")
        self.check(SMALL.replace("breaks 0\n", "breaks 1\n@00\n"), "expected a number")
        self.check(SMALL.replace("breaks 0\n", "breaks 2\n5\n@"), "expected a number")

    def test_texts(self):
        self.check("livequill 1\ntext 4\n@1;\n", "too few characters")
        self.check("livequill 1\ntext 2\n1;@", "expected a newline")
        self.check("livequill 1\ntext 1\n1@;\nlines 0\n", "expected a newline")
        self.check("livequill 1\ntext 0\n@1;\nlines 0\n", "expected a newline")
        self.check("livequill 1\ntext 3\n1;\n@lines 0\n", "expected a newline")
        self.check(SMALL.replace("lines 0\n", "lines 1\n2\nab@c\n"), "expected a newline")
        self.check(SMALL.replace("past 0\n", "past 1\n3\n@1;"), "too few characters")

    def test_the_end(self):
        self.check(SMALL + "@\n", "expected the end")
        self.check(SMALL + "@ ", "expected the end")
        self.check(SAVED + "@livequill 1\n", "expected the end")

    def test_programs(self):
        self.check(SMALL.replace("text 0\n\n", "text 5\n1; @x;\n"), "x is not declared")
        self.check(SMALL.replace("text 0\n\n", "text 4\n1; @%\n"), "this character is not allowed")
        self.check(SMALL.replace("text 0\n\n", "text 3\n1 +@\n"), "expected an expression")
        self.check(SMALL.replace("past 0\n", "past 2\n2\n1;\n5\n1; @x;\n"), "x is not declared")
        self.check(SMALL.replace("past 0\n", "past 2\n2\n@x;\n2\ny;\n"), "x is not declared")
        # The present text counts ahead of the earlier ones, and all of them ahead of the steps.
        text = SMALL.replace("text 0\n\n", "text 2\n@x;\n").replace("steps 0", "steps 5").replace("past 0\n", "past 1\n2\ny;\n")
        self.check(text, "x is not declared")
        self.check(SMALL.replace("steps 0", "steps 5").replace("past 0\n", "past 1\n2\n@y;\n"), "y is not declared")
        # What is wrong with the parts counts ahead of what is wrong with the texts.
        self.check(SMALL.replace("text 0\n\n", "text 2\nx;\n") + "@z", "expected the end")
        self.check(SMALL.replace("text 0\n\n", "text 2\nx;\n").replace("past 0", "past @21"), "the number is too great")

    def test_steps(self):
        # The empty program makes two steps.
        for count in (0, 1, 2):
            self.assertIsNone(fault_of(SMALL.replace("steps 0", f"steps {count}")))
        for count in (3, 20000):
            self.check(SMALL.replace("steps 0", f"steps @{count}"), "so many steps cannot be made")
        waiting = SMALL.replace("text 0\n\n", "text 7\nread();\n")
        self.assertIsNone(fault_of(waiting.replace("steps 0", "steps 1")))
        self.check(waiting.replace("steps 0", "steps @2"), "so many steps cannot be made")
        self.assertIsNone(fault_of(waiting.replace("steps 0", "steps 5").replace("lines 0\n", "lines 1\n0\n\n")))


if __name__ == "__main__":
    unittest.main()
