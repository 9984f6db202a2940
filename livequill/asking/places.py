"""The places of the frames of a machine, and its failure."""

from livequill.code.instructions import SHAPES
from livequill.names.places import place_of
from livequill.values.kinds import kind_of
from livequill.values.written import show, shortened


def told_offset(row):
    """Returns the offset that an instruction tells, or None."""
    # An offset is always the last operand.
    return row[-1] if "offset" in SHAPES[row[0]] else None


def next_row(machine, frame):
    """Returns the next instruction of a frame."""
    return machine.chunk_of(frame.number).rows[frame.at]


def next_line(program, machine):
    """Returns the line in which the machine's next instruction tells an offset, or None."""
    if machine.state != "running":
        return None
    frame = machine.frames[0]
    told_there = told_offset(next_row(machine, frame))
    if told_there is None:
        return None
    return told_place(program, frame.number, told_there)[1]


def told_place(program, number, offset):
    """Returns a place in a function as it is told: the number of the function, the line and the column."""
    line, column = place_of(program.text, program.function_of(number).offset + offset)
    return number, line, column


def places_of(program, machine):
    """Returns the list of the places of the frames, the innermost first."""
    calling = [calling_place(program, machine, frame) for frame in machine.frames[1:]]
    return [innermost_place(program, machine), *calling] if machine.frames else []


def innermost_place(program, machine):
    """Returns the place of the innermost frame, which is there."""
    frame = machine.frames[0]
    rows = machine.chunk_of(frame.number).rows
    offsets = [told_offset(row) for row in rows[:frame.at + 1]]
    within = [0, *[offset for offset in offsets if offset is not None]]
    return told_place(program, frame.number, within[-1])


def calling_place(program, machine, frame):
    """Returns the place of a frame that waits for a call: the instruction ahead of its next one."""
    rows = machine.chunk_of(frame.number).rows
    return told_place(program, frame.number, told_offset(rows[frame.at - 1]))


def failure_of(program, machine):
    """Returns what the machine failed with and the list of the places, or None."""
    if machine.state != "failed":
        return None
    places = [told_place(program, number, offset) for number, offset in machine.places]
    return told(machine.store, machine.thrown), places


def told(store, value):
    """Returns a value with which a machine failed as it is told."""
    if kind_of(store, value) == "instance":
        named = store.at(value).named
        kind = named.get("kind")
        message = named.get("message")
        if isinstance(kind, str) and isinstance(message, str):
            return shortened(f"{kind}: {message}")
    return show(store, value)
