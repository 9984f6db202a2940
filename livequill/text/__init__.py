"""Texts and trees: tokens, the grammar, terms, and the canonical text."""
