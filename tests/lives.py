"""Live programs in tests: all their answers, new ones that must stand where they stand, and deeds drawn by chance."""

import random

from livequill.errors import InvalidText, LivequillError
from livequill.live.live import Live
from machines import state


def answers(live):
    """All that a live program answers, apart from what depends on its edits."""
    steps = live.steps_made()
    found = [live.text_now(), steps, live.output_lines(), live.status(), live.where(), live.failure(), list(live.lines),
             list(live.breaks), live.profile(), live.coverage(), state(live.machine)]
    for index in range(len(live.machine.frames)):
        variables = live.variables(index)
        found.append(variables)
        for name in sorted({name for name, _ in variables}):
            found.append((name, live.changes(index, name), live.evaluate(index, name)))
        found.append(live.evaluate(index, "[print(1), read()]"))
    found.extend(live.visits(line) for line in range(1, live.text_now().count("\n") + 2))
    found.extend(live.printed(index) for index in range(len(live.output_lines())))
    if steps:
        found.append(live.trace(1, min(steps, 100)))
        found.append(live.trace(max(1, steps - 99), steps))
    return found


def short_answers(live):
    """Some of the answers, for many comparisons."""
    return [live.text_now(), live.steps_made(), live.output_lines(), live.status(), live.where(), live.failure(),
            list(live.lines), list(live.breaks), state(live.machine)]


def like(live):
    """A new live program with the text, the lines, the steps and the breakpoints of another one."""
    other = Live(live.text_now())
    for line in live.lines:
        other.feed(line)
    other.go(live.steps_made())
    other.set_breaks(live.breaks)
    return other


def refused(action, *values):
    """The error that a call raises, with what it tells; None if it raises none."""
    try:
        action(*values)
    except InvalidText as error:
        return InvalidText, error.offset, error.message
    except LivequillError as error:
        return error.__class__
    return None


class Deeds:
    """Draws deeds on live programs, always the same ones for one seed."""

    def __init__(self, seed):
        self.random = random.Random(seed)

    def edit(self, text):
        """A part of a text and what to put there; most edits make a program."""
        chance = self.random
        kind = chance.randrange(6)
        if kind == 0:
            return 0, 0, chance.choice(["print(0);\n", "let z = 1;\n", "\n", "// more\n", "fun early() { return 2; }\n"])
        if kind == 1:
            return len(text), len(text), chance.choice(["print(99);", " throw 3;", "\n", "read();", "let b = [1];"])
        digits = [at for at, sign in enumerate(text) if sign.isdigit()]
        if kind <= 4 and digits:
            at = chance.choice(digits)
            return at, at + 1, str(chance.randrange(10))
        start = chance.randrange(len(text) + 1)
        return start, min(len(text), start + chance.randrange(4)), chance.choice(["", "1", ";", " ", "x"])

    def do(self, live):
        """Does a deed; it may raise an error."""
        chance = self.random
        kind = chance.randrange(12)
        if kind <= 2:
            live.edit(*self.edit(live.text_now()))
        elif kind == 3:
            live.undo()
        elif kind == 4:
            live.feed(chance.choice(["7", "a line", "", "x" * 200, "y" * 201]))
        elif kind == 5:
            live.unfeed()
        elif kind <= 7:
            live.step(chance.choice([0, 1, 2, 3, 10, 50, 200]))
        elif kind == 8:
            live.go(chance.choice([0, 1, 5, 40, 100, 300, 1000, live.steps_made()]))
        elif kind <= 10:
            live.run(chance.choice(["break", "over", "out"]))
        else:
            live.set_breaks([chance.randrange(0, 12) for _ in range(chance.randrange(4))])
