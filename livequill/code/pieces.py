"""Cuts the text of code into pieces."""

from livequill.errors import InvalidCode
from livequill.text.tokens import DIGITS, ESCAPES, LETTERS, MOST_DIGITS, comment_end, run_end


def lines_of(text):
    """Returns the list of the lines of a text, each a list of its pieces.

    A piece is a tuple of a kind, an offset and a value. The kinds are "word",
    "number", "text" and "colon"; the value of a colon is the colon.
    """
    lines = [[]]
    at = 0
    while at < len(text):
        if text[at] == "\n":
            lines.append([])
            at += 1
        elif text[at] == " ":
            at += 1
        elif text[at] == ";":
            at = comment_end(text, at)
        else:
            piece, at = piece_at(text, at)
            lines[-1].append(piece)
    return lines


def piece_at(text, at):
    """Returns the piece that begins at an offset, and the offset behind it."""
    sign = text[at]
    if sign in LETTERS:
        end = run_end(text, at, LETTERS)
        return ("word", at, text[at:end]), end
    if sign == ":":
        return ("colon", at, sign), at + 1
    if sign == "\"":
        return text_piece(text, at)
    start = at + 1 if sign == "-" else at
    end = run_end(text, start, DIGITS)
    if end == start:
        raise InvalidCode(at, "this cannot stand here")
    return ("number", at, number_of(text[at:end])), end


def number_of(text):
    """Returns the number that a text writes.

    Python itself refuses to read very long ones. Of those only the first digits are
    read, so that they are beyond all bounds, too.
    """
    digits = text.lstrip("-").lstrip("0")
    size = int(digits[:MOST_DIGITS + 1] or "0")
    return -size if text.startswith("-") else size


def text_piece(text, start):
    """Reads the text whose opening quotation mark stands at an offset."""
    signs = []
    at = start + 1
    while text[at:at + 1] != "\"":
        escaped = text[at:at + 1] == "\\"
        if text[at:at + 1] in ("", "\n") or (escaped and text[at + 1:at + 2] not in ESCAPES):
            raise InvalidCode(start, "the text is not closed")
        signs.append(ESCAPES[text[at + 1]] if escaped else text[at])
        at += 2 if escaped else 1
    return ("text", start, "".join(signs)), at + 1
