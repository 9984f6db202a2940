"""Helpers of the tests for machines: machines of code and of programs, and all that is known of one."""

from livequill.asking.program import Program
from livequill.code.flaws import flaws_of
from livequill.code.reading import read_code
from livequill.machine.machine import Machine
from stores import snapshot


def machine_of(code, *lines):
    """A machine of sound code, whose lines are parted by `/`."""
    chunks = read_code(code.replace("/", "\n"))
    assert flaws_of(chunks) == [], flaws_of(chunks)
    return Machine(chunks, list(lines))


def machine_where(text, stop, *lines):
    """A program and its machine at the first step before which a function of the machine is true."""
    program = Program(text)
    machine = program.start(list(lines))
    while not stop(machine):
        assert machine.step(), "the machine never gets there"
    return program, machine


def state(machine):
    """All that is known of a machine."""
    frames = [(frame.number, frame.at, repr(frame.scope), repr(frame.stack), repr(frame.handlers), repr(frame.made))
              for frame in machine.frames]
    return snapshot(machine.store), machine.steps, frames, machine.state, repr(machine.thrown), machine.places
