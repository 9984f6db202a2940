"""Writes code as text."""

from livequill.text.quoted import quoted
from livequill.values.refs import Builtin, Ref


def write_code(chunks):
    """Returns the text of code."""
    return "".join([write_chunk(chunk) for chunk in chunks])


def write_chunk(chunk):
    """Writes the lines of a function."""
    rows = [f"  {index}: {write_row(row)}\n" for index, row in enumerate(chunk.rows)]
    return f"function {chunk.number} {chunk.wanted}\n" + "".join(rows)


def write_row(row):
    """Writes an instruction."""
    return " ".join([row[0], *[write_operand(operand) for operand in row[1:]]])


def write_operand(value):
    """Writes an operand. Among those of `const` the only object is the class Error."""
    if value is None:
        return "null"
    if isinstance(value, bool):
        return "true" if value else "false"
    if isinstance(value, Builtin):
        return value.name
    if isinstance(value, Ref):
        return "error"
    return quoted(value) if isinstance(value, str) else str(value)
