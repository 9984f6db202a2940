"""Collects the instructions of a function."""

from livequill.code.chunks import Chunk


class Coder:
    """The instructions of a function as far as they have come, and what is known at their end."""

    def __init__(self, scope, offset):
        self.scope = scope
        self.offset = offset
        self.rows = []
        self.scopes = []
        self.entered = 0
        self.loops = []

    def emit(self, row):
        """Adds an instruction, and returns its index."""
        self.rows.append(row)
        self.scopes.append(self.scope)
        return len(self.rows) - 1

    def here(self):
        """Returns the index of the next instruction."""
        return len(self.rows)

    def lead_here(self, at):
        """Gives an instruction the next index as the one at which it goes on, its last operand."""
        self.rows[at] = (*self.rows[at][:-1], self.here())

    def told(self, offset):
        """Returns an offset as it is told within the function."""
        return offset - self.offset

    def bring(self, row, name):
        """Adds an instruction that makes a variable, which has this name."""
        self.emit(row)
        self.scope = (name, *self.scope)

    def drop(self, many):
        """Ends the scope of so many variables."""
        self.emit(("drop", many))
        self.scope = self.scope[many:]

    def chunk(self, number, wanted):
        """Returns the code of the function with this number and so many parameters."""
        return Chunk(number, wanted, self.rows, self.scopes)


class Loop:
    """A loop around the end of the instructions: where it begins a round, and what is in scope there."""

    def __init__(self, again, variables, entered):
        self.again = again
        self.variables = variables
        self.entered = entered
        self.breaks = []
