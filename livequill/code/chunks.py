"""Chunks: the code of one function each."""


class Chunk:
    """The code of a function: its instructions, and for translated code the names in scope before each."""

    def __init__(self, number, wanted, rows, scopes=()):
        self.number = number
        self.wanted = wanted
        self.rows = list(rows)
        self.scopes = list(scopes)

    def __eq__(self, other):
        return isinstance(other, Chunk) and same_chunk(self, other)


def same_chunk(one, other):
    """Tells whether two chunks are equal, whatever their names in scope are."""
    if one.number != other.number or one.wanted != other.wanted or len(one.rows) != len(other.rows):
        return False
    return all([same_row(row, match) for row, match in zip(one.rows, other.rows)])


def same_row(row, other):
    """Tells whether two instructions are equal, those of `const` with values of the same kind."""
    if row != other:
        return False
    # For Python True is 1, and False is 0.
    return row[0] != "const" or isinstance(row[1], bool) == isinstance(other[1], bool)
