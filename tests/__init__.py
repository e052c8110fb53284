"""The tests of wallbands."""
