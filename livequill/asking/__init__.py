"""Questions about a machine: places and failures."""
