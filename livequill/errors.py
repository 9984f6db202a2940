"""The errors that the package raises."""


class LivequillError(ValueError):
    """The base class of all errors."""


class InvalidText(LivequillError):
    """A text is no program, or no expression."""

    def __init__(self, offset, message):
        super().__init__(f"{message} (at {offset})")
        self.offset = offset
        self.message = message


class InvalidCode(LivequillError):
    """A text is not code."""

    def __init__(self, offset, message):
        super().__init__(f"{message} (at {offset})")
        self.offset = offset
        self.message = message


class InvalidSave(LivequillError):
    """A text is not a saved live program."""

    def __init__(self, offset, message):
        super().__init__(f"{message} (at {offset})")
        self.offset = offset
        self.message = message


class ScriptError(LivequillError):
    """An operation of a program has no result."""

    def __init__(self, kind, message):
        super().__init__(f"{kind}: {message}")
        self.kind = kind
        self.message = message


class Waiting(LivequillError):
    """A program reads a line of input that is not there yet."""


class InvalidOffset(LivequillError):
    """An offset is none of the text, or a part stops before it starts."""


class InvalidCount(LivequillError):
    """A number of steps is out of its bounds."""


class InvalidLine(LivequillError):
    """A number of a line is out of its bounds, or there are too many of them."""


class InvalidMode(LivequillError):
    """There is no such mode of running."""


class NoSuchCall(LivequillError):
    """No call in progress has this index."""


class NoSuchVariable(LivequillError):
    """No variable with this name is in scope."""


class NoSuchOutput(LivequillError):
    """No line of output has this index."""


class TooLong(LivequillError):
    """A text has more characters than it may have."""


class TooManyLines(LivequillError):
    """There would be more lines of input than there may be."""
