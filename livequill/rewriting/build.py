"""Builds the code of simpler trees."""

from livequill.code.chunks import Chunk
from livequill.code.translate import translate
from livequill.rewriting.simpler import simpler

LED_ON = ("jump", "unless", "both", "either", "next", "escape")


def build(tree):
    """Returns the built code of a program without faults, a list of chunks."""
    return [built(chunk) for chunk in translate(simpler(tree))]


def built(chunk):
    """Returns the code of a function with its indexes led on."""
    rows = [led_on(row, chunk.rows) for row in chunk.rows]
    return Chunk(chunk.number, chunk.wanted, rows, chunk.scopes)


def led_on(row, rows):
    """Returns an instruction with its index led on over jumps."""
    if row[0] not in LED_ON:
        return row
    index = row[-1]
    # Jumps that go round would lead on without an end.
    for _ in rows:
        if rows[index][0] != "jump":
            break
        index = rows[index][1]
    return (*row[:-1], index)
