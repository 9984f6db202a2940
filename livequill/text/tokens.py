"""Cuts a text into tokens."""

WORDS = (
    "let", "fun", "class", "extends", "if", "else", "while", "for", "in",
    "break", "continue", "return", "throw", "try", "catch", "and", "or", "not",
    "is", "mod", "true", "false", "null", "this", "super",
)
LETTERS = "ABCDEFGHIJKLMNOPQRSTUVWXYZabcdefghijklmnopqrstuvwxyz_"
DIGITS = "0123456789"
LONG_SIGNS = ("==", "!=", "<=", ">=")
SHORT_SIGNS = "()[]{},;:.=<>+-*/"
ESCAPES = {"n": "\n", "\"": "\"", "\\": "\\"}
MOST_DIGITS = 300
PERCENT = 37
NOT_ALLOWED = "this character is not allowed"


def tokens_of(text):
    """Returns the list of the tokens of a text: tuples of a kind, an offset and a value."""
    tokens = []
    at = 0
    while not tokens or tokens[-1][0] not in ("end", "fault"):
        token, at = token_at(text, gaps_end(text, at))
        tokens.append(token)
    return tokens


def gaps_end(text, at):
    """Returns the offset behind the blanks, newlines and comments that begin at an offset."""
    while at < len(text):
        if text[at] in " \n":
            at += 1
        elif text.startswith("//", at):
            at = comment_end(text, at)
        else:
            break
    return at


def comment_end(text, at):
    """Returns the offset of the newline that ends a comment, or the length of the text."""
    newline = text.find("\n", at)
    return len(text) if newline < 0 else newline


def token_at(text, at):
    """Returns the token that begins at an offset, and the offset behind it."""
    if at == len(text):
        return ("end", at, None), at
    sign = text[at]
    if sign in LETTERS:
        return name_token(text, at)
    if sign in DIGITS:
        return number_token(text, at)
    if sign == "\"":
        return text_token(text, at)
    if text[at:at + 2] in LONG_SIGNS:
        return ("sign", at, text[at:at + 2]), at + 2
    if sign in SHORT_SIGNS:
        return ("sign", at, sign), at + 1
    return ("fault", at, NOT_ALLOWED), at


def run_end(text, at, signs):
    """Returns the offset behind the longest run of these signs."""
    while at < len(text) and text[at] in signs:
        at += 1
    return at


def name_token(text, at):
    """Reads a word or a name."""
    end = run_end(text, at, LETTERS + DIGITS)
    name = text[at:end]
    kind = "word" if name in WORDS else "name"
    return (kind, at, name), end


def number_token(text, at):
    """Reads a number. Python itself refuses to read very long ones, so their digits are counted first."""
    end = run_end(text, at, DIGITS)
    digits = text[at:end].lstrip("0")
    if len(digits) > MOST_DIGITS:
        return ("fault", at, "the number is too great"), at
    return ("number", at, int(digits or "0")), end


def text_token(text, start):
    """Reads the text whose opening quotation mark stands at an offset."""
    signs = []
    at = start + 1
    while text[at:at + 1] != "\"":
        fault = text_fault(text, start, at)
        if fault is not None:
            return fault, at
        if text[at] == "\\":
            signs.append(ESCAPES[text[at + 1]])
            at += 2
        else:
            signs.append(text[at])
            at += 1
    return ("text", start, "".join(signs)), at + 1


def text_fault(text, start, at):
    """Returns the fault at an offset within the text that begins at another one, or None."""
    sign = text[at:at + 1]
    after = text[at + 1:at + 2]
    if sign in ("", "\n") or (sign == "\\" and after == ""):
        return "fault", start, "the text does not end"
    if sign == "\\" and after not in ESCAPES:
        return "fault", at, "the escape is not known"
    if not is_character(sign):
        return "fault", at, NOT_ALLOWED
    return None


def is_character(sign):
    """Tells whether a sign is a character of a program."""
    return sign == "\n" or (" " <= sign <= "~" and ord(sign) != PERCENT)
