"""The machine: it executes code one instruction at a time."""

from livequill.asking.places import told_offset
from livequill.errors import ScriptError
from livequill.machine.actions import act
from livequill.machine.frames import Frame
from livequill.values.kinds import kind_of
from livequill.values.operators import make_failure
from livequill.values.refs import Builtin, Ref
from livequill.values.store import Store


class Machine:
    """A machine at the beginning of sound code."""

    def __init__(self, chunks, lines):
        self.chunks = list(chunks)
        # Of several chunks with one number the first one counts.
        self.by_number = {chunk.number: chunk for chunk in reversed(self.chunks)}
        self.store = Store(lines)
        self.steps = 0
        self.frames = [Frame(0, ())]
        self.state = "running"
        self.thrown = None
        self.places = []

    def step(self):
        """Makes a step if one can be made, and tells whether it did."""
        if self.state != "running" or self.waits():
            return False
        frame = self.frames[0]
        row = self.chunk_of(frame.number).rows[frame.at]
        frame.at += 1
        self.steps += 1
        try:
            act(self, frame, row)
        except ScriptError as error:
            self.throw(make_failure(self.store, Ref(0), error.kind, error.message))
        return True

    def run(self, count):
        """Makes at most so many steps, and returns how many were made."""
        for made in range(count):
            if not self.step():
                return made
        return count

    def status(self):
        """Returns the state, which is "waiting" if it is running, but the next step cannot be made."""
        if self.state == "running" and self.waits():
            return "waiting"
        return self.state

    def fork(self):
        """Returns an equal machine of its own."""
        other = Machine(self.chunks, [])
        other.store = self.store.fork()
        other.steps = self.steps
        other.frames = [frame.fork() for frame in self.frames]
        other.state = self.state
        other.thrown = self.thrown
        other.places = list(self.places)
        return other

    def chunk_of(self, number):
        """Returns the first chunk with this number."""
        return self.by_number[number]

    def waits(self):
        """Tells whether the next instruction reads a line of input that is not there."""
        if self.store.taken < len(self.store.lines):
            return False
        frame = self.frames[0]
        called = self.called_alone(frame, self.chunk_of(frame.number).rows[frame.at])
        return isinstance(called, Builtin) and called.name == "read"

    def called_alone(self, frame, row):
        """Returns what an instruction calls without arguments, or None if it calls nothing that could be read."""
        if row[0] == "call" and row[1] == 0:
            return frame.stack[-1]
        if row[0] == "invoke" and row[2] == 0 and kind_of(self.store, frame.stack[-1]) == "instance":
            return self.store.at(frame.stack[-1]).named.get(row[1])
        return None

    def throw(self, value):
        """Goes on at the innermost handler that is there, or fails."""
        caught = [index for index, frame in enumerate(self.frames) if frame.handlers]
        if caught:
            del self.frames[:caught[0]]
            frame = self.frames[0]
            frame.at, frame.scope = frame.handlers.pop(0)
            frame.stack = [value]
            return
        self.thrown = value
        self.places = [(frame.number, self.offset_behind(frame)) for frame in self.frames]
        self.frames = []
        self.state = "failed"

    def offset_behind(self, frame):
        """Returns the offset that the instruction ahead of a frame's next one tells, otherwise 0."""
        offset = told_offset(self.chunk_of(frame.number).rows[frame.at - 1])
        return 0 if offset is None else offset
