"""The objects of a machine: what refers to what, and what is lost."""
