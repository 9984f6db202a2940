"""Takes the tokens of a text one after another."""

from livequill.errors import InvalidText
from livequill.text.tokens import tokens_of


class Reader:
    """The tokens of a text, of which the first ones were taken."""

    def __init__(self, text, first):
        self.tokens = tokens_of(text)
        self.position = 0
        self.number = first

    def token(self):
        """Returns the next token, which stays the next one."""
        return self.tokens[self.position]

    def take(self):
        """Takes the next token, which must be neither the end nor a fault, and returns it."""
        self.position += 1
        return self.tokens[self.position - 1]

    def mark(self):
        """Returns the next token's value if it is a word or a sign, otherwise the empty text."""
        kind, _, value = self.token()
        return value if kind in ("word", "sign") else ""

    def at_end(self):
        """Tells whether all tokens were taken."""
        return self.token()[0] == "end"

    def names_function(self):
        """Tells whether `fun` and a name come next."""
        return self.mark() == "fun" and self.tokens[self.position + 1][0] == "name"

    def take_mark(self, mark):
        """Takes this word or sign, and returns its offset."""
        if self.mark() != mark:
            self.refuse(f"expected {mark}")
        return self.take()[1]

    def take_name(self):
        """Takes a name, and returns its offset and itself."""
        if self.token()[0] != "name":
            self.refuse("expected a name")
        _, offset, name = self.take()
        return offset, name

    def take_number(self):
        """Returns the number of the next function."""
        self.number += 1
        return self.number - 1

    def check_depth(self, depth):
        """Refuses what would begin at the next token, if its depth is less than 0."""
        if depth < 0:
            self.refuse("nested too deeply")

    def refuse(self, message):
        """Raises the fault at the next token: its own one, if it is a fault, otherwise this one."""
        kind, offset, value = self.token()
        raise InvalidText(offset, value if kind == "fault" else message)
