"""Live programs: programs that are stopped, asked, changed and taken back while they run."""

from livequill.asking.evaluating import evaluate
from livequill.asking.places import failure_of, places_of
from livequill.asking.running import run_on
from livequill.asking.searches import changes_of, coverage_of, printed_by, profile_of, trace_of, visits_of
from livequill.asking.variables import HIDDEN, variable_of, variables_of
from livequill.errors import (
    InvalidCount, InvalidLine, InvalidMode, NoSuchCall, NoSuchOutput, NoSuchVariable, TooManyLines,
)
from livequill.live.bounds import (
    LAST_LINE, MOST_BREAKS, MOST_CHARACTERS, MOST_LINE_CHARACTERS, MOST_LINES, MOST_PAST, MOST_STEPS,
    MOST_STEPS_AT_ONCE, MOST_TRACED,
)
from livequill.live.editing import check_length, edited, read_text
from livequill.live.functions import changed_functions

MODES = ("break", "over", "out")


class Live:
    """A live program, at first without lines of input, steps, breakpoints and earlier texts."""

    def __init__(self, text):
        self.program = read_text(text)
        self.lines = []
        self.machine = self.program.start(self.lines)
        self.breaks = []
        self.past = []

    def text_now(self):
        """Returns the text of the program."""
        return self.program.text

    def steps_made(self):
        """Returns the number of steps."""
        return self.machine.steps

    def output_lines(self):
        """Returns the list of the lines of output."""
        return list(self.machine.store.output)

    def status(self):
        """Returns the status of the machine."""
        return self.machine.status()

    # Changes of the text and of the lines of input

    def edit(self, start, stop, new):
        """Replaces a part of the text, and returns the list of the functions that this changes."""
        program = edited(self.text_now(), start, stop, new)
        changed = changed_functions(self.program, program)
        self.past.insert(0, self.text_now())
        del self.past[MOST_PAST:]
        self.program = program
        self.stand_after(self.steps_made())
        return changed

    def undo(self):
        """Takes the last edit back, and tells whether there was one."""
        if not self.past:
            return False
        self.program = read_text(self.past.pop(0))
        self.stand_after(self.steps_made())
        return True

    def feed(self, line):
        """Adds a line of input."""
        check_length(line, MOST_LINE_CHARACTERS)
        if len(self.lines) >= MOST_LINES:
            raise TooManyLines(f"more than {MOST_LINES} lines")
        self.lines.append(line)
        self.stand_after(self.steps_made())

    def unfeed(self):
        """Takes the last line of input back, and tells whether there was one."""
        if not self.lines:
            return False
        self.lines.pop()
        self.stand_after(self.steps_made())
        return True

    def stand_after(self, count):
        """Stands after so many steps from the beginning, or fewer if the program ends or waits before."""
        self.machine = self.program.after(self.lines, count)

    # Steps

    def step(self, count):
        """Makes so many steps more, as far as they can be made, and returns the status."""
        check_count(count)
        self.machine.run(self.steps_left(count))
        return self.status()

    def go(self, count):
        """Goes to the state after so many steps from the beginning, and returns the status."""
        check_count(count)
        self.stand_after(count)
        return self.status()

    def run(self, mode):
        """Makes steps until there is a reason to stop, and returns the status."""
        if mode not in MODES:
            raise InvalidMode(f"there is no mode {mode}")
        run_on(self.program, self.machine, self.breaks, mode, self.steps_left(MOST_STEPS_AT_ONCE))
        return self.status()

    def steps_left(self, count):
        """Returns how many of so many steps may still be made."""
        return min(count, MOST_STEPS - self.steps_made())

    def set_breaks(self, lines):
        """Sets the breakpoints."""
        if len(lines) > MOST_BREAKS:
            raise InvalidLine(f"more than {MOST_BREAKS} breakpoints")
        for line in lines:
            check_line(line)
        self.breaks = list(lines)

    # Questions

    def where(self):
        """Returns the list of the places of the frames, the innermost first."""
        return places_of(self.program, self.machine)

    def failure(self):
        """Returns what the program failed with and the list of the places, or None."""
        return failure_of(self.program, self.machine)

    def variables(self, index):
        """Returns the list of the pairs of a name and a shown value for the variables of a frame."""
        return variables_of(self.program, self.machine, self.frame_at(index))

    def frame_at(self, index):
        """Returns the frame with an index. Raises NoSuchCall."""
        if not 0 <= index < len(self.machine.frames):
            raise NoSuchCall(f"no call in progress has the index {index}")
        return self.machine.frames[index]

    def evaluate(self, index, text):
        """Returns how an expression ends in the scope of a frame, and its value."""
        frame = self.frame_at(index)
        check_length(text, MOST_CHARACTERS)
        return evaluate(self.program, self.machine, frame, text)

    def changes(self, index, name):
        """Returns the list of the steps that changed the variable that a frame has under a name."""
        frame = self.frame_at(index)
        ref = None if name in HIDDEN else variable_of(self.program, frame, name)
        if ref is None:
            raise NoSuchVariable(f"no variable {name} is in scope")
        return changes_of(self.program, self.lines, self.steps_made(), ref)

    def visits(self, line):
        """Returns the list of the steps that visited a line."""
        check_line(line)
        return visits_of(self.program, self.lines, self.steps_made(), line)

    def printed(self, index):
        """Returns the step that printed a line of output."""
        check_output(self, index)
        return printed_by(self.program, self.lines, self.steps_made(), index)

    def profile(self):
        """Returns the profile of the steps that were made."""
        return profile_of(self.program, self.lines, self.steps_made())

    def coverage(self):
        """Returns the coverage of the steps that were made."""
        return coverage_of(self.program, self.lines, self.steps_made())

    def trace(self, first, last):
        """Returns the trace of the steps from one to another."""
        if not 1 <= first <= last <= self.steps_made() or last >= first + MOST_TRACED:
            raise InvalidCount(f"there is no trace of the steps from {first} to {last}")
        return trace_of(self.program, self.lines, first, last)


def check_count(count):
    """Refuses a number of steps that is out of its bounds."""
    if not 0 <= count <= MOST_STEPS:
        raise InvalidCount(f"{count} is no number of steps")


def check_line(line):
    """Refuses a number that no line can have."""
    if not 1 <= line <= LAST_LINE:
        raise InvalidLine(f"{line} is no number of a line")


def check_output(live, index):
    """Refuses an index that no line of output has."""
    if not 0 <= index < len(live.machine.store.output):
        raise NoSuchOutput(f"no line of output has the index {index}")
