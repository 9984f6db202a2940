"""Live programs as texts."""

from livequill.errors import InvalidSave, InvalidText
from livequill.live.bounds import (
    LAST_LINE, MOST_BREAKS, MOST_CHARACTERS, MOST_LINE_CHARACTERS, MOST_LINES, MOST_PAST, MOST_STEPS,
)
from livequill.live.live import Live
from livequill.live.reader import SaveReader
from livequill.names.faults import read_program

HEAD = "livequill 1"


def save_live(live):
    """Returns the saved text of a live program."""
    return "".join([
        f"{HEAD}\n",
        "text ", saved_text(live.text_now()),
        "lines ", saved_texts(live.lines),
        "steps ", saved_number(live.steps_made()),
        "breaks ", saved_number(len(live.breaks)), *[saved_number(line) for line in live.breaks],
        "past ", saved_texts(live.past),
    ])


def saved_number(number):
    """Returns a number as it is saved."""
    return f"{number}\n"


def saved_text(text):
    """Returns a text as it is saved."""
    return f"{saved_number(len(text))}{text}\n"


def saved_texts(texts):
    """Returns the number of texts, and the texts, as they are saved."""
    return saved_number(len(texts)) + "".join([saved_text(text) for text in texts])


def load_live(text):
    """Returns the live program that was saved as a text. Raises InvalidSave with the first fault."""
    parts = SavedParts(SaveReader(text))
    for offset, program in [parts.text, *parts.past]:
        check_program(offset, program)
    live = Live(parts.text[1])
    for line in texts_of(parts.lines):
        live.feed(line)
    live.set_breaks(parts.breaks)
    live.past.extend(texts_of(parts.past))
    live.go(parts.steps)
    if live.steps_made() < parts.steps:
        raise InvalidSave(parts.steps_offset, "so many steps cannot be made")
    return live


class SavedParts:
    """The parts of a saved text; each text in it is a pair of its offset and itself."""

    def __init__(self, reader):
        reader.take_word(HEAD, "\n")
        reader.take_word("text", " ")
        self.text = reader.take_text(MOST_CHARACTERS)
        reader.take_word("lines", " ")
        self.lines = reader.take_texts(MOST_LINES, MOST_LINE_CHARACTERS)
        reader.take_word("steps", " ")
        self.steps_offset = reader.at
        self.steps = reader.take_number(MOST_STEPS)
        reader.take_word("breaks", " ")
        many = reader.take_number(MOST_BREAKS)
        self.breaks = [reader.take_line(LAST_LINE) for _ in range(many)]
        reader.take_word("past", " ")
        self.past = reader.take_texts(MOST_PAST, MOST_CHARACTERS)
        reader.check_end()


def texts_of(pairs):
    """Returns the list of the texts of pairs of an offset and a text."""
    return [text for _, text in pairs]


def check_program(start, text):
    """Refuses a text that is no program; it begins at an offset of the saved text."""
    try:
        read_program(text)
    except InvalidText as error:
        raise InvalidSave(start + error.offset, error.message) from None
