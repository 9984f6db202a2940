"""What happens in a program step by step, told by single steps of a machine alone."""

from livequill.names.places import place_of
from livequill.values.written import show

SILENT = ("const", "load", "save", "pop", "jump", "unless", "both", "either", "list", "closure", "declare", "blank", "drop",
          "method", "next", "enter", "leave", "escape", "ret")


class Step:
    """All that is told of a step: what was there before it, and what is there after it."""

    def __init__(self, program, machine):
        frame = machine.frames[0]
        function = program.functions[frame.number]
        self.number = machine.steps + 1
        self.functions = [held.number for held in machine.frames]
        self.row = program.chunks[frame.number].rows[frame.at]
        self.line = place_of(program.text, function.offset + self.row[-1])[0] if self.tells(self.row) else None
        told = [row[-1] for row in program.chunks[frame.number].rows[:frame.at + 1] if self.tells(row)]
        self.place = (frame.number, *place_of(program.text, function.offset + (told[-1] if told else 0)))
        self.top = show(machine.store, frame.stack[-1]) if frame.stack else None
        self.set = frame.scope[self.row[1]].number if self.row[0] == "save" else None
        self.things = len(machine.store.things)
        self.printed = len(machine.store.output)
        assert machine.step()
        self.entered = machine.frames[0].number if len(machine.frames) > len(self.functions) else None
        self.made = range(self.things, len(machine.store.things))
        self.prints = range(self.printed, len(machine.store.output))

    @staticmethod
    def tells(row):
        return row[0] not in SILENT


def history(program, lines, count):
    """The list of the steps of a program, at most so many."""
    machine = program.start(lines)
    steps = []
    while len(steps) < count and machine.status() == "running":
        steps.append(Step(program, machine))
    return steps
