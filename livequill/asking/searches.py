"""What happened within the first steps of a program."""

from livequill.asking.places import innermost_place, next_row, told_offset, told_place
from livequill.asking.running import can_step
from livequill.values.written import show


def changes_of(program, lines, count, ref):
    """Returns the list of the steps that made a variable, or set it."""
    machine = program.start(lines)
    found = []
    while can_step(machine, count):
        many = len(machine.store.things)
        is_set = sets_variable(machine, ref)
        machine.step()
        if is_set or many <= ref.number < len(machine.store.things):
            found.append(machine.steps)
    return found


def sets_variable(machine, ref):
    """Tells whether the next step sets a variable."""
    frame = machine.frames[0]
    row = next_row(machine, frame)
    return row[0] == "save" and frame.scope[row[1]] == ref


def visits_of(program, lines, count, line):
    """Returns the list of the steps whose instruction tells an offset in a line."""
    told_lines = lines_told(program)
    machine = program.start(lines)
    found = []
    while can_step(machine, count):
        frame = machine.frames[0]
        is_visit = told_lines[frame.number][frame.at] == line
        machine.step()
        if is_visit:
            found.append(machine.steps)
    return found


def lines_told(program):
    """Returns for each function the list of the lines in which its instructions tell an offset, or None."""
    return [[line_told(program, chunk.number, row) for row in chunk.rows] for chunk in program.chunks]


def line_told(program, number, row):
    """Returns the line in which an instruction of a function tells an offset, or None."""
    offset = told_offset(row)
    return None if offset is None else told_place(program, number, offset)[1]


def printed_by(program, lines, count, index):
    """Returns the step by which a line of output was printed, or None."""
    machine = program.start(lines)
    while len(machine.store.output) <= index and can_step(machine, count):
        machine.step()
    return machine.steps if 0 <= index < len(machine.store.output) else None


def profile_of(program, lines, count):
    """Returns a tuple for each function: its number, how often it was entered, and two numbers of steps.

    The first one counts the steps in it, the second one those while a call of it was in progress.
    """
    machine = program.start(lines)
    profile = Profile(len(program.functions))
    called = functions_called(machine)
    while can_step(machine, count):
        calls = len(machine.frames)
        profile.count_step(machine.frames[0].number, called)
        machine.step()
        if len(machine.frames) > calls:
            profile.entered[machine.frames[0].number] += 1
        if len(machine.frames) != calls:
            called = functions_called(machine)
    return list(zip(range(len(program.functions)), profile.entered, profile.inside, profile.around))


def functions_called(machine):
    """Returns the list of the numbers of the functions of which a call is in progress."""
    return list({frame.number: True for frame in machine.frames})


class Profile:
    """What is counted for each function, at the beginning of the program."""

    def __init__(self, many):
        self.entered = [1] + [0] * (many - 1)
        self.inside = [0] * many
        self.around = [0] * many

    def count_step(self, innermost, called):
        """Counts a step that is made in a function while calls of some are in progress."""
        self.inside[innermost] += 1
        for number in called:
            self.around[number] += 1


def coverage_of(program, lines, count):
    """Returns the list of the pairs of a line in which an instruction tells an offset and of its visits."""
    told_lines = lines_told(program)
    known = {line: True for told_there in told_lines for line in told_there if line is not None}
    visits = {line: 0 for line in sorted(known)}
    machine = program.start(lines)
    while can_step(machine, count):
        frame = machine.frames[0]
        line = told_lines[frame.number][frame.at]
        if line is not None:
            visits[line] += 1
        machine.step()
    return list(visits.items())


def trace_of(program, lines, first, last):
    """Returns a list with a tuple for each step: where it is made, its instruction, and the top of the stack."""
    machine = program.after(lines, first - 1)
    found = []
    while can_step(machine, last):
        frame = machine.frames[0]
        top = show(machine.store, frame.stack[-1]) if frame.stack else None
        found.append((innermost_place(program, machine), next_row(machine, frame), top))
        machine.step()
    return found
