"""Texts in quotation marks."""


def quoted(text):
    """Returns the text in quotation marks, with escapes for quotation marks, backslashes and newlines."""
    held = text.replace("\\", "\\\\").replace("\"", "\\\"").replace("\n", "\\n")
    return "\"" + held + "\""
