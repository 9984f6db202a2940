"""Which functions an edit changes."""

from livequill.code.chunks import same_chunk


class Numbered:
    """The chunks of a program by the numbers of their functions."""

    def __init__(self, program):
        self.chunks = {chunk.number: chunk for chunk in program.chunks}

    def lacks(self, chunk):
        """Tells whether no chunk of the program is equal to this one."""
        number = chunk.number
        return number not in self.chunks or not same_chunk(self.chunks[number], chunk)


def changed_functions(old, new):
    """Returns the list of the numbers of the functions of a program that another one does not have."""
    before = Numbered(old)
    return sorted([chunk.number for chunk in new.chunks if before.lacks(chunk)])
