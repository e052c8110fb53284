"""A room's acoustics: what is left of a path in each of four bands."""
