"""The levels of operators: what has a higher level binds more."""

ASSIGNMENT = 0
OR = 1
AND = 2
NOT = 3
COMPARISON = 4
SUM = 5
PRODUCT = 6
SIGN = 7
SUFFIXED = 8

# The operators that stand between two operands, with the levels above.
OPERATORS = {
    "or": 1, "and": 2,
    "==": 4, "!=": 4, "<": 4, "<=": 4, ">": 4, ">=": 4, "is": 4,
    "+": 5, "-": 5,
    "*": 6, "/": 6, "mod": 6,
}
