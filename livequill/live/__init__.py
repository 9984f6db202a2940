"""Live programs: programs that are changed while they run."""
