"""The meaning of a program, told by its tree alone."""
