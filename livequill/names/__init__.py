"""Names and places: scopes, functions, the faults of a tree, lines and columns."""
