"""Program objects: programs with all that is known of them."""

from livequill.code.translate import translate
from livequill.machine.machine import Machine
from livequill.names.faults import read_program
from livequill.names.functions import functions_of


class Program:
    """A program with its tree, its functions and its code. Raises InvalidText with the first fault of the text."""

    def __init__(self, text):
        self.text = text
        self.tree = read_program(text)
        self.functions = functions_of(self.tree)
        self.chunks = translate(self.tree)

    def start(self, lines):
        """Returns a new machine of the code with these lines of input."""
        return Machine(self.chunks, lines)

    def after(self, lines, count):
        """Returns a machine that has made so many steps, or fewer if it ends or waits before."""
        machine = self.start(lines)
        machine.run(count)
        return machine

    def function_of(self, number):
        """Returns the function with this number."""
        return self.functions[number]
