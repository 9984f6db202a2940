"""Lines and columns of a text, and changes of it."""


def place_of(text, offset):
    """Returns the pair of the line and the column of an offset."""
    before = text[:offset]
    # Without a newline before the offset, rfind answers -1: the column counts from the beginning.
    return before.count("\n") + 1, offset - before.rfind("\n")


def changed(text, start, stop, new):
    """Returns the text with a new one in place of the part from one offset to another."""
    return text[:start] + new + text[stop:]
