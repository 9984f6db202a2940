"""The methods of texts."""

from livequill.errors import ScriptError
from livequill.values.checks import check_gaps, check_place, check_size
from livequill.values.operators import make_list


def length(store, text):
    return len(text)


def in_capitals(store, text):
    # The language has no letters but these; Python knows others, of which some become longer.
    return "".join([sign.upper() if "a" <= sign <= "z" else sign for sign in text])


def in_small_letters(store, text):
    return "".join([sign.lower() if "A" <= sign <= "Z" else sign for sign in text])


def part_between(store, text, i, j):
    check_gaps(i, j, len(text))
    return text[i:j]


def split(store, text, between):
    check_not_empty(between)
    return make_list(store, text.split(between))


def check_not_empty(text):
    """Refuses the empty text, which is found nowhere and everywhere."""
    if text == "":
        raise ScriptError("ValueError", "the text is empty")


def find(store, text, other):
    index = text.find(other)
    return None if index < 0 else index


def replace(store, text, old, new):
    check_not_empty(old)
    check_size(len(text) + text.count(old) * (len(new) - len(old)))
    return text.replace(old, new)


def trim(store, text):
    return text.strip(" \n")


def begins_with(store, text, other):
    return text.startswith(other)


def ends_with(store, text, other):
    return text.endswith(other)


def contains(store, text, other):
    return other in text


def repeat(store, text, times):
    if times < 0:
        raise ScriptError("ValueError", "the number is negative")
    check_size(len(text) * times)
    # The empty text may be asked for more times than Python can repeat a text.
    return "" if text == "" else text * times


def turn_around(store, text):
    return text[::-1]


def lines(store, text):
    return make_list(store, text.split("\n"))


def code(store, text, i):
    check_place(i, len(text))
    return ord(text[i])


# Each method with the kinds of its arguments.
TEXT_METHODS = {
    "length": (length, ()), "upper": (in_capitals, ()), "lower": (in_small_letters, ()),
    "slice": (part_between, ("integer", "integer")), "split": (split, ("text",)), "find": (find, ("text",)),
    "replace": (replace, ("text", "text")), "trim": (trim, ()),
    "startsWith": (begins_with, ("text",)), "endsWith": (ends_with, ("text",)), "contains": (contains, ("text",)),
    "repeat": (repeat, ("integer",)), "reverse": (turn_around, ()), "lines": (lines, ()),
    "code": (code, ("integer",)),
}
