"""Code: the chunks of a program."""
