"""Runs a machine until there is a reason to stop."""

from livequill.asking.places import next_line


def can_step(machine, count):
    """Tells whether a machine has made fewer steps than this, and can make one more."""
    return machine.steps < count and machine.status() == "running"


def run_on(program, machine, lines, mode, most):
    """Runs the machine, and returns how many steps were made."""
    start = Start(program, machine)
    made = 0
    while made < most and machine.step():
        made += 1
        if has_reason(program, machine, lines, mode, start):
            break
    return made


class Start:
    """What running begins with: how many calls are in progress, and the line of the next instruction."""

    def __init__(self, program, machine):
        self.calls = len(machine.frames)
        self.line = next_line(program, machine)


def has_reason(program, machine, lines, mode, start):
    """Tells whether there is a reason to stop behind a step that was made."""
    line = next_line(program, machine)
    if mode == "break":
        return line is not None and line in lines
    calls = len(machine.frames)
    if mode == "over" and calls == start.calls:
        return line is not None and line != start.line
    return calls < start.calls
