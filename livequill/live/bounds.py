"""The bounds of a live program."""

MOST_CHARACTERS = 4000
MOST_LINES = 50
MOST_LINE_CHARACTERS = 200
MOST_STEPS = 20000
MOST_PAST = 20
MOST_BREAKS = 20
# The last line of a text that has newlines alone.
LAST_LINE = 4001
MOST_STEPS_AT_ONCE = 5000
MOST_TRACED = 100
