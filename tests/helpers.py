"""Helpers of the tests. A mark `@` in a text stands where a fault is expected; it is no part of the text."""

from livequill.errors import InvalidText
from livequill.text.parser import parse, parse_expression


def unmarked(text):
    """Returns the text without its marks, and the list of the offsets at which they stood."""
    offsets = []
    plain = ""
    for piece in text.split("@"):
        plain += piece
        offsets.append(len(plain))
    return plain, offsets[:-1]


def fault_of(text):
    """Returns the fault of a text as an offset and a message, or None if it has a tree."""
    return refusal(parse, text)


def expression_fault_of(text):
    return refusal(parse_expression, text)


def refusal(action, *values):
    try:
        action(*values)
    except InvalidText as error:
        return error.offset, error.message
    return None


def items_of(text):
    """Returns the items of a program."""
    kind, items = parse(text)
    assert kind == "block"
    return items


def item_of(text):
    """Returns the one item of a program."""
    (item,) = items_of(text)
    return item
