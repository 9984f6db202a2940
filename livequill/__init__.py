"""Livequill: a small language whose programs are changed while they run."""
