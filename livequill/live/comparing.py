"""Compares a live program with what it would be after an edit, and with what it was before its edits."""

from livequill.asking.program import Program
from livequill.asking.running import can_step
from livequill.live.bounds import MOST_STEPS
from livequill.live.editing import edited
from livequill.live.functions import changed_functions
from livequill.live.live import check_output


def preview(live, start, stop, new):
    """Returns the functions that an edit changes, the steps that agree, and the first line that differs, or None."""
    program = edited(live.text_now(), start, stop, new)
    changed = changed_functions(live.program, program)
    after = program.after(live.lines, live.steps_made())
    differing = first_difference(live.output_lines(), after.store.output)
    return changed, steps_that_agree(live, program, changed), differing


def steps_that_agree(live, program, changed):
    """Returns how many steps come before the first one in a function that another program has not as it is."""
    machine = live.program.start(live.lines)
    while can_step(machine, live.steps_made()):
        number = machine.frames[0].number
        if number in changed or number >= len(program.functions):
            break
        machine.step()
    return machine.steps


def first_difference(lines, others):
    """Returns the first index at which two lists of lines differ, or None."""
    for index, (line, other) in enumerate(zip(lines, others)):
        if line != other:
            return index
    return None if len(lines) == len(others) else min(len(lines), len(others))


def blame(live, index):
    """Returns how many edits must be taken back for a line of output to be another one or none, or None."""
    check_output(live, index)
    present = live.machine.store.output[index]
    for number, text in enumerate(live.past, start=1):
        if line_printed(Program(text), live.lines, index) != present:
            return number
    return None


def line_printed(program, lines, index):
    """Returns the line of output with an index that a program comes to, or None."""
    machine = program.start(lines)
    while len(machine.store.output) <= index and can_step(machine, MOST_STEPS):
        machine.step()
    return machine.store.output[index] if index < len(machine.store.output) else None
