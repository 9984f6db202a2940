"""Calculations with integers, and integers that are written as texts."""

from math import isqrt

from livequill.errors import ScriptError
from livequill.values.checks import checked_integer

DIGITS = "0123456789abcdefghijklmnopqrstuvwxyz"
CAPITALS = "ABCDEFGHIJKLMNOPQRSTUVWXYZ"
LEAST_BASE = 2
MOST_BASE = 36


def raised(number, exponent):
    """Returns a power of an integer."""
    if exponent < 0:
        raise ScriptError("ValueError", "the exponent is negative")
    if number in (-1, 0, 1):
        return small_power(number, exponent)
    power = 1
    # Every factor is at least 2, so a great exponent is refused soon.
    for _ in range(exponent):
        power = checked_integer(power * number)
    return power


def small_power(number, exponent):
    """Returns a power of -1, 0 or 1, whose exponent may be as great as an integer can be."""
    if exponent == 0:
        return 1
    return number if number >= 0 or exponent % 2 == 1 else -number


def root_of(number):
    """Returns the greatest integer whose square is at most this one."""
    if number < 0:
        raise ScriptError("ValueError", "the integer is negative")
    return isqrt(number)


def check_base(base):
    """Refuses a base in which nothing is written."""
    if not LEAST_BASE <= base <= MOST_BASE:
        raise ScriptError("ValueError", "no such base")


def written_in(number, base):
    """Returns the text that writes an integer in a base."""
    check_base(base)
    digits = []
    rest = abs(number)
    while rest > 0 or not digits:
        digits.append(DIGITS[rest % base])
        rest = rest // base
    if number < 0:
        digits.append("-")
    return "".join(digits)[::-1]


def read_in(text, base):
    """Returns the integer that a text writes in a base."""
    check_base(base)
    digits = text[1:] if text.startswith("-") else text
    places = [place_of_digit(sign) for sign in digits]
    if not places or not all([0 <= place < base for place in places]):
        raise ScriptError("ValueError", "not an integer")
    number = 0
    for place in places:
        number = number * base + place
    return checked_integer(-number if text.startswith("-") else number)


def place_of_digit(sign):
    """Returns the number that a digit stands for, -1 if it is no digit."""
    capital = CAPITALS.find(sign)
    return DIGITS.find(sign) if capital < 0 else capital + 10
