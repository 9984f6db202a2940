"""Values: objects, the store that holds them, kinds, truth and equality."""
