"""The machine: frames, and what its calls do."""
