"""Paths found in another plain way, by the words of the document and with fractions, to hold answers against.

All walls in all orders are tried. The end alone is mirrored; then the way is walked from the start, turn by turn.
"""

import itertools
import math
from fractions import Fraction


def sign(number):
    return (number > 0) - (number < 0)


class PlainRoom:
    def __init__(self, room):
        self.height = room[0]
        self.corners = [tuple(room[place:place + 2]) for place in range(3, len(room), 3)]
        self.count = len(self.corners)
        self.stuffs = [room[place] for place in range(5, len(room), 3)] + list(room[1:3])
        self.lines = list(zip(self.corners, self.corners[1:] + self.corners[:1]))
        self.runs = [(sign(end[0] - start[0]), sign(end[1] - start[1])) for start, end in self.lines]

    def is_within(self, x, y):
        """Whether it's strictly within the lines, told by how many lines are below."""
        below = 0
        for (ax, ay), (bx, by) in self.lines:
            if ax == bx:
                if x == ax and min(ay, by) <= y <= max(ay, by):
                    return False
            elif min(ax, bx) <= x <= max(ax, bx):
                level = ay + (x - ax) * Fraction(by - ay, bx - ax)
                if level == y:
                    return False
                below += level < y and x < max(ax, bx)
        return below % 2 == 1

    def is_inside(self, point):
        return 0 < point[2] < self.height and self.is_within(point[0], point[1])

    def is_in_open_wall(self, wall, point):
        x, y, z = point
        if wall >= self.count:
            return z == (0 if wall == self.count else self.height) and self.is_within(x, y)
        (ax, ay), (bx, by) = self.lines[wall]
        along = Fraction((x - ax) * (bx - ax) + (y - ay) * (by - ay), (bx - ax)**2 + (by - ay)**2)
        is_on_line = (ax + along * (bx - ax), ay + along * (by - ay)) == (x, y)
        return is_on_line and 0 < along < 1 and 0 < z < self.height

    def mirror(self, wall, point):
        x, y, z = point
        if wall == self.count:
            return (x, y, -z)
        if wall == self.count + 1:
            return (x, y, 2 * self.height - z)
        ax, ay = self.corners[wall]
        run = self.runs[wall]
        if run[0] == 0:
            return (2 * ax - x, y, z)
        if run[1] == 0:
            return (x, 2 * ay - y, z)
        # Askew the two places are changed about, and both turned if the line falls.
        way = run[0] * run[1]
        return (ax + way * (y - ay), ay + way * (x - ax), z)

    def measure(self, wall, point):
        """How far from the wall's plane the point is, as the plane's own numbers have it."""
        if wall >= self.count:
            return point[2] - (0 if wall == self.count else self.height)
        ax, ay = self.corners[wall]
        run = self.runs[wall]
        return (point[0] - ax) * run[1] - (point[1] - ay) * run[0]

    def list_cuts(self, p, q):
        """When the way from p to q comes to a line, the floor or the ceiling, as parts of the whole way."""
        cuts = []
        run = [q[axis] - p[axis] for axis in range(3)]
        if run[2]:
            cuts += [(level - p[2]) / Fraction(run[2]) for level in (0, self.height)]
        for (ax, ay), (bx, by) in self.lines:
            across = run[0] * (by - ay) - run[1] * (bx - ax)
            if across:
                along = ((ax - p[0]) * run[1] - (ay - p[1]) * run[0]) / Fraction(across)
                if 0 <= along <= 1:
                    cuts.append(((ax - p[0]) * (by - ay) - (ay - p[1]) * (bx - ax)) / Fraction(across))
            elif run[0] or run[1]:
                square = run[0]**2 + run[1]**2
                for cx, cy in ((ax, ay), (bx, by)):
                    if (cx - p[0]) * run[1] == (cy - p[1]) * run[0]:
                        cuts.append(((cx - p[0]) * run[0] + (cy - p[1]) * run[1]) / Fraction(square))
        return sorted({cut for cut in cuts if 0 < cut < 1})

    def is_clear(self, p, q):
        """Whether all points strictly between are inside: those at the cuts and one from each piece between."""
        if p == q:
            return True
        cuts = self.list_cuts(p, q)
        ends = [Fraction(0)] + cuts + [Fraction(1)]
        for time in cuts + [(a + b) / 2 for a, b in itertools.pairwise(ends)]:
            if not self.is_inside(tuple(p[axis] + time * (q[axis] - p[axis]) for axis in range(3))):
                return False
        return True

    def meet(self, wall, p, q):
        """Where the way from p to q comes to the wall's plane, strictly between them; None if it doesn't."""
        before, behind = self.measure(wall, p), self.measure(wall, q)
        if before * behind >= 0:
            return None
        time = Fraction(before) / (before - behind)
        return tuple(p[axis] + time * (q[axis] - p[axis]) for axis in range(3))

    def walk(self, walls, s, e, seen):
        """The turns of the path from s to e by those walls, seen being e mirrored in them all; None if it's none."""
        points = [s]
        for wall in walls:
            turn = self.meet(wall, points[-1], seen)
            if turn is None or not self.is_in_open_wall(wall, turn) or not self.is_clear(points[-1], turn):
                return None
            points.append(turn)
            seen = self.mirror(wall, seen)
        if not self.is_clear(points[-1], e):
            return None
        return points[1:]

    def is_turned(self, wall, before, turn, behind):
        """Whether the point before mirrored, the turn and the point behind lie so on one line."""
        mirrored = self.mirror(wall, before)
        first = [turn[axis] - mirrored[axis] for axis in range(3)]
        second = [behind[axis] - turn[axis] for axis in range(3)]
        for a, b in ((0, 1), (1, 2), (2, 0)):
            if first[a] * second[b] != first[b] * second[a]:
                return False
        return sum(first[axis] * second[axis] for axis in range(3)) > 0


def square_of_length(p, q):
    return sum((q[axis] - p[axis])**2 for axis in range(3))


def check_by_the_words(plain, walls, points, length2):
    """What is said of a path, once more of one that was found."""
    for number, wall in enumerate(walls):
        assert plain.is_turned(wall, *points[number:number + 3]), (walls, points)
    legs = [math.sqrt(square_of_length(p, q)) for p, q in itertools.pairwise(points)]
    assert math.isclose(sum(legs), math.sqrt(length2), rel_tol=1e-9), (walls, points)


def list_paths(room, s, e, most):
    """All paths in order: by length, by the number of turns, by the walls; of each length squared and walls."""
    plain = PlainRoom(room)
    paths = []
    tried = [((), e)]
    for turns in range(most + 1):
        for walls, seen in tried:
            points = plain.walk(walls, s, e, seen)
            if points is not None:
                length2 = square_of_length(s, seen)
                check_by_the_words(plain, walls, [s] + points + [e], length2)
                paths.append((length2, walls))
        if turns < most:
            tried = [
                ((wall,) + walls, plain.mirror(wall, seen))
                for walls, seen in tried for wall in range(plain.count + 2)
            ]
    return sorted(paths, key=lambda path: (path[0], len(path[1]), path[1]))
