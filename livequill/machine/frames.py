"""Frames: the calls in progress."""


class Frame:
    """A call in progress, at the beginning of its function."""

    def __init__(self, number, scope):
        self.number = number
        self.at = 0
        self.scope = scope
        self.stack = []
        self.handlers = []
        self.made = None

    def fork(self):
        """Returns an equal frame of its own."""
        other = Frame(self.number, self.scope)
        other.at = self.at
        other.stack = list(self.stack)
        other.handlers = list(self.handlers)
        other.made = self.made
        return other

    def take_values(self, many):
        """Takes so many values away from the top, and returns their list, the top last."""
        start = len(self.stack) - many
        found = self.stack[start:]
        del self.stack[start:]
        return found
