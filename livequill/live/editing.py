"""Programs that edits would give."""

from livequill.asking.program import Program
from livequill.errors import InvalidOffset, TooLong
from livequill.live.bounds import MOST_CHARACTERS
from livequill.names.places import changed


def read_text(text):
    """Returns the program of a text. Raises TooLong; InvalidText."""
    check_length(text, MOST_CHARACTERS)
    return Program(text)


def check_length(text, most):
    """Refuses a text with more characters than this."""
    if len(text) > most:
        raise TooLong(f"more than {most} characters")


def edited(text, start, stop, new):
    """Returns the program that an edit of a text gives. Raises InvalidOffset, TooLong, InvalidText."""
    if not 0 <= start <= stop <= len(text):
        raise InvalidOffset(f"no part of the text goes from {start} to {stop}")
    return read_text(changed(text, start, stop, new))
