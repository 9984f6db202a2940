"""The written form of values."""

from livequill.text.quoted import quoted
from livequill.values.refs import Ref
from livequill.values.things import Instance, Kin, Parts, Table

MOST_SHOWN = 100
MOST_AROUND = 10


def write_value(store, value, most):
    """Returns the written form of a value, or its first characters, one more than `most`."""
    form = Form(store, most)
    write(form, value)
    return "".join(form.pieces)[:most + 1]


def text_of(store, value, most):
    """Returns a text itself, and the written form of another value as `write_value` does."""
    if isinstance(value, str):
        return value
    return write_value(store, value, most)


def show(store, value):
    """Returns the written form of a value, shortened."""
    return shortened(write_value(store, value, MOST_SHOWN))


def shortened(text):
    """Returns the text, or its first characters and three dots if it is too long to be shown."""
    return text if len(text) <= MOST_SHOWN else text[:MOST_SHOWN] + "..."


class Form:
    """A written form as far as it has come, and the numbers of the lists and maps that are around its end."""

    def __init__(self, store, most):
        self.store = store
        self.most = most
        self.pieces = []
        self.size = 0
        self.around = []

    def add(self, text):
        """Puts a text behind what was written."""
        self.pieces.append(text)
        self.size += len(text)

    def is_enough(self):
        """Tells whether more was written than is asked for."""
        return self.size > self.most


def write(form, value):
    """Writes a value, as far as it is asked for."""
    thing = form.store.at(value) if isinstance(value, Ref) else None
    if isinstance(thing, Parts):
        write_around(form, value, "[", "]")
    elif isinstance(thing, Table):
        write_around(form, value, "{", "}")
    else:
        form.add(plain_form(form, value, thing))


def write_around(form, ref, opening, closing):
    """Writes a list or a map with its signs around what it holds."""
    form.add(opening)
    if ref.number in form.around or len(form.around) >= MOST_AROUND:
        form.add("...")
    else:
        form.around.append(ref.number)
        write_held(form, form.store.at(ref))
        form.around.pop()
    form.add(closing)


def write_held(form, thing):
    """Writes what a list or a map holds, with commas between."""
    gap = ""
    for held in held_by(thing):
        # A list that is held again and again could be written without an end.
        if form.is_enough():
            return
        form.add(gap)
        gap = ", "
        for at, value in enumerate(held):
            if at > 0:
                form.add(": ")
            write(form, value)


def held_by(thing):
    """Returns the list of what a list or a map holds: tuples of a part, or of a key and its value."""
    if isinstance(thing, Table):
        return thing.pairs()
    return [(part,) for part in thing.held]


def plain_form(form, value, thing):
    """Returns the written form of a value that is no list and no map; `thing` is its object, if it has one."""
    if value is None:
        return "null"
    if isinstance(value, bool):
        return "true" if value else "false"
    if isinstance(value, int):
        return str(value)
    if isinstance(value, str):
        return quoted(value[:form.most + 1])
    if isinstance(thing, Instance):
        name = form.store.at(thing.owner).name
        return "<" + name[:form.most + 1] + ">"
    if isinstance(thing, Kin):
        return "<class " + thing.name[:form.most + 1] + ">"
    return "<function>"
