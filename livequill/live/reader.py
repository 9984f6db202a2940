"""Takes the numbers and texts of a saved text one after another."""

from livequill.errors import InvalidSave
from livequill.text.tokens import DIGITS, run_end


class SaveReader:
    """A saved text, of which the characters ahead of an offset were taken."""

    def __init__(self, text):
        self.text = text
        self.at = 0

    def take_word(self, word, gap):
        """Takes a word with the blank or newline behind it."""
        if not self.text.startswith(word + gap, self.at):
            raise InvalidSave(self.at, f"expected {word}")
        self.at += len(word + gap)

    def take_number(self, most):
        """Takes a number that is at most this one, and returns it."""
        start = self.at
        end = run_end(self.text, start, DIGITS)
        digits = self.text[start:end]
        if digits == "" or self.text[end:end + 1] != "\n" or (digits.startswith("0") and digits != "0"):
            raise InvalidSave(start, "expected a number")
        # Python itself refuses to read very long numbers, so the digits are counted first.
        if len(digits) > len(str(most)) or int(digits) > most:
            raise InvalidSave(start, "the number is too great")
        self.at = end + 1
        return int(digits)

    def take_line(self, most):
        """Takes the number of a line, and returns it."""
        start = self.at
        line = self.take_number(most)
        if line == 0:
            raise InvalidSave(start, "expected the number of a line")
        return line

    def take_text(self, most):
        """Takes a text of at most so many characters, and returns its offset and itself."""
        size = self.take_number(most)
        start = self.at
        end = start + size
        if end > len(self.text):
            raise InvalidSave(start, "too few characters")
        if self.text[end:end + 1] != "\n":
            raise InvalidSave(end, "expected a newline")
        self.at = end + 1
        return start, self.text[start:end]

    def take_texts(self, most, most_characters):
        """Takes the number of texts and as many texts, and returns the list of their offsets and themselves."""
        many = self.take_number(most)
        return [self.take_text(most_characters) for _ in range(many)]

    def check_end(self):
        """Refuses what stands behind the last part."""
        if self.at < len(self.text):
            raise InvalidSave(self.at, "expected the end")
