"""Reads code that is written as text."""

from livequill.code.chunks import Chunk
from livequill.code.instructions import SHAPES
from livequill.code.pieces import lines_of
from livequill.errors import InvalidCode
from livequill.values.checks import is_bounded
from livequill.values.refs import BUILTINS, value_named

MOST_NUMBER = 999999999
WORDS = {"null": None, "true": True, "false": False}


def read_code(text):
    """Returns the chunks of a text. Raises InvalidCode with its first fault."""
    chunks = []
    for line in lines_of(text):
        if line:
            read_line(line, chunks)
    return chunks


def read_line(line, chunks):
    """Reads a line: the beginning of a function, or an instruction of the last one."""
    if begins_function(line):
        chunks.append(Chunk(line[1][2], line[2][2], []))
        return
    numbered = kinds_in(line[:2]) == ["number", "colon"]
    row = row_of(line[2:] if numbered else line)
    offset = line[0][1]
    if row is None:
        raise InvalidCode(offset, "this is no line of code")
    if not chunks:
        raise InvalidCode(offset, "no function has begun")
    if numbered and line[0][2] != len(chunks[-1].rows):
        raise InvalidCode(offset, "this is not the index of the instruction")
    chunks[-1].rows.append(row)


def kinds_in(pieces):
    """Returns the list of the kinds of pieces."""
    return [piece[0] for piece in pieces]


def begins_function(line):
    """Tells whether a line is the beginning of a function."""
    if kinds_in(line) != ["word", "number", "number"] or line[0][2] != "function":
        return False
    return is_small(line[1]) and is_small(line[2])


def is_small(piece):
    """Tells whether a piece is a number that may be an operand of any instruction."""
    return piece[0] == "number" and 0 <= piece[2] <= MOST_NUMBER


def row_of(pieces):
    """Returns the instruction that stands in these pieces, or None if there is none."""
    if not pieces or pieces[0][0] != "word" or pieces[0][2] not in SHAPES:
        return None
    word = pieces[0][2]
    shapes = SHAPES[word]
    operands = pieces[1:]
    if len(operands) != len(shapes) or not all([fits(shape, piece) for shape, piece in zip(shapes, operands)]):
        return None
    if word == "const":
        return (word, value_of(operands[0]))
    return (word, *[piece[2] for piece in operands])


def fits(shape, piece):
    """Tells whether a piece can be an operand of this shape."""
    if shape == "value":
        return is_value(piece)
    if shape == "name":
        return piece[0] == "text"
    return is_small(piece)


def is_value(piece):
    """Tells whether a piece is a value of `const`."""
    kind, _, value = piece
    if kind == "word":
        return value in WORDS or value == "error" or value in BUILTINS
    return kind == "text" or (kind == "number" and is_bounded(value))


def value_of(piece):
    """Returns the value of `const` that a piece writes."""
    kind, _, value = piece
    if kind != "word":
        return value
    return WORDS[value] if value in WORDS else value_named(value)
