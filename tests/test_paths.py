"""Tests of "Rooms" (inside, open wall, clear, mirrored) and "Paths", as energy tells them."""

import itertools
import random
import unittest

from tests.books import RISING
from tests.drawn import draw_book, draw_most, draw_room, list_points
from tests.handing import check_answer
from tests.plain_gains import add_energies
from tests.plain_paths import PlainRoom, list_paths
from tests.plans import ANGLE, D, L, OCTAGON, S, SLAB, SQUARE, T, TRIANGLE
from tests.plans import begin_at, make_comb, make_room, make_saw, mirror, turn
from wallbands.rooms import energy, gains

WHOLE_RANGE = (0, 18446744073709551615)
LARGEST = 9223372036854775807
SMALLEST = -9223372036854775808

# Each wall has a stuff of its own, as far as there are that many.
ANGLE_ROOM = make_room(ANGLE, [7, 6, 5, 4, 3, 2], (100, 1, 0))
SLAB_ROOM = make_room(SLAB, list(range(8)), (50, 3, 5))
# One gap between two teeth: walls 1, 2 and 3 are its sides, 2 the one on top, at y = 50.
GAP_ROOM = make_room(make_comb(8), list(range(8)), (50, 3, 5))
# Its top goes up and down: the corners at (10, 100) and (30, 100) point inwards.
SAW_ROOM = make_room(make_saw(8), list(range(8)), (50, 3, 5))
NOTCHED = make_comb(24)[:-1] + [(10, 90), (0, 80)]


class PathsTest(unittest.TestCase):
    def check_energy(self, room, s, e, most, paths, book=RISING):
        """Those are all paths, and all of them are told."""
        answer = [0] + add_energies(paths, room, book)
        check_answer(self, energy(*s, *e, most, *WHOLE_RANGE, room, book), answer)

    def check(self, room, s, e, most, paths):
        """Those are all paths from s to e, and from e to s, in order: of each length squared and walls."""
        self.assertEqual(list_paths(room, s, e, most), paths)
        self.check_energy(room, s, e, most, paths)
        self.check_energy(room, e, s, most, paths)

    def check_plainly(self, room, s, e, most, book=RISING):
        paths = list_paths(room, s, e, most)
        self.check_energy(room, s, e, most, paths, book)
        return paths

    def check_by(self, room, s, e, walls, is_path):
        """Whether there's a path by those walls; all other paths are as they should be, too."""
        paths = self.check_plainly(room, s, e, len(walls))
        self.assertEqual(tuple(walls) in [path[1] for path in paths], is_path, paths)
        back = self.check_plainly(room, e, s, len(walls))
        self.assertEqual(tuple(walls[::-1]) in [path[1] for path in back], is_path, back)


class InsideTest(unittest.TestCase):
    """Points that are inside, and those that aren't, as s and as e."""

    def check(self, room, within, point, is_inside):
        """Whether it's refused; within is a point that is inside."""
        for given in (energy(*point, *within, 0, *WHOLE_RANGE, room, RISING),
                      energy(*within, *point, 0, *WHOLE_RANGE, room, RISING),
                      energy(*point, *point, 0, *WHOLE_RANGE, room, RISING)):
            if is_inside:
                self.assertEqual((given[0], len(given)), (0, 5), point)
            else:
                check_answer(self, given, [-3])

    def test_as_told(self):
        for point in ((100, 0, 50), (200, 100, 50), (100, 200, 50), (0, 100, 50)):
            self.check(S, (100, 100, 50), point, False)
        for point in ((0, 0, 50), (200, 0, 50), (200, 200, 50), (0, 200, 50)):
            self.check(S, (100, 100, 50), point, False)
        for z, is_inside in ((0, False), (1, True), (99, True), (100, False), (-1, False), (101, False)):
            self.check(S, (100, 100, 50), (100, 100, z), is_inside)
        for point in ((1, 1, 1), (199, 1, 99), (199, 199, 1), (1, 199, 99)):
            self.check(S, (100, 100, 50), point, True)
        for point in ((-1, 100, 50), (201, 100, 50), (100, -1, 50), (100, 201, 50), (-1, -1, 50), (201, 201, 50)):
            self.check(S, (100, 100, 50), point, False)

    def test_every_point_about_small_rooms(self):
        for corners in (
            [(3, 3), (7, 3), (3, 7)],
            [(5, 3), (7, 5), (5, 7), (3, 5)],
            [(3, 3), (9, 3), (9, 5), (6, 5), (6, 8), (3, 8)],
            [(4, 3), (6, 3), (7, 4), (7, 6), (6, 7), (4, 7), (3, 6), (3, 4)],
            [(3, 3), (5, 5), (7, 3), (9, 5), (9, 8), (7, 6), (5, 8), (3, 6)],
            [(3, 3), (5, 3), (5, 5), (7, 5), (7, 3), (9, 3), (9, 9), (7, 7), (5, 9), (3, 9)],
        ):
            for quarter in range(4):
                for plan in (corners, mirror(corners, 12)):
                    room = make_room(begin_at(plan, quarter % 3), head=(3, 0, 0))
                    self.assertEqual(gains(0, room, RISING, [])[0], 0)
                    self.check_every_point(room)
                corners = turn(corners, 12)

    def check_every_point(self, room):
        plain = PlainRoom(room)
        within = list_points(room)[0]
        for x, y in itertools.product(range(1, 12), repeat=2):
            for z in (0, 1, 2, 3) if (x + y) % 5 == 0 else (1, 3):
                self.check(room, within, (x, y, z), plain.is_inside((x, y, z)))

    def test_level_with_a_corner(self):
        # (100, 100) is the corner that points inwards, (300, 100) one that points outwards.
        within = (50, 50, 50)
        for x, is_inside in ((-1, False), (0, False), (1, True), (99, True), (100, False), (101, False),
                             (200, False), (300, False), (301, False)):
            self.check(ANGLE_ROOM, within, (x, 100, 50), is_inside)
        for y, is_inside in ((-1, False), (0, False), (1, True), (99, True), (100, False), (150, False),
                             (200, False), (201, False)):
            self.check(ANGLE_ROOM, within, (100, y, 50), is_inside)
        # Left, amid and right of the teeth, level with their tops and their feet.
        for y in (100, 110):
            for x in range(-10, 61, 5):
                plain = PlainRoom(SAW_ROOM)
                self.check(SAW_ROOM, (25, 50, 25), (x, y, 25), plain.is_inside((x, y, 25)))

    def test_far_outside(self):
        for number in (4096, LARGEST, SMALLEST, LARGEST - 1, SMALLEST + 1):
            for room, within in ((S, (100, 100, 50)), (D, (100, 100, 30)), (ANGLE_ROOM, (50, 50, 50))):
                for axis in range(3):
                    point = list(within)
                    point[axis] = number
                    self.check(room, within, tuple(point), False)
                self.check(room, within, (number, number, number), False)
                self.check(room, within, (number, -number - 1, 50), False)
        self.check(make_room(TRIANGLE), (50, 50, 50), (LARGEST, SMALLEST, 50), False)
        self.check(make_room(TRIANGLE), (50, 50, 50), (SMALLEST, LARGEST, 50), False)

    def test_both_not_inside(self):
        check_answer(self, energy(0, 0, 0, 0, 0, 0, 0, *WHOLE_RANGE, S, RISING), [-3])
        check_answer(self, energy(*[LARGEST] * 3, *[SMALLEST] * 3, 4, *WHOLE_RANGE, S, RISING), [-3])


class StraightTest(PathsTest):
    """Legs without a turn: clear or not."""

    def test_touches_a_corner_that_points_inwards(self):
        self.check(ANGLE_ROOM, (50, 150, 30), (150, 50, 70), 0, [])
        self.check(ANGLE_ROOM, (50, 150, 30), (150, 51, 70), 0, [])
        self.check(ANGLE_ROOM, (50, 150, 30), (150, 49, 70), 0, [(100**2 + 101**2 + 40**2, ())])
        self.check(ANGLE_ROOM, (50, 150, 50), (150, 50, 50), 0, [])

    def test_touches_it_from_all_sides(self):
        # The corner is touched, but both sides of the leg are within the room but for the tooth's point.
        self.check(SAW_ROOM, (25, 100, 10), (35, 100, 10), 0, [])
        self.check(SAW_ROOM, (25, 99, 10), (35, 99, 10), 0, [(100, ())])
        self.check(SAW_ROOM, (25, 101, 10), (35, 101, 10), 0, [])
        for corners in (make_saw(8), turn(make_saw(8), 120), mirror(make_saw(8), 120)):
            room = make_room(corners)
            plain = PlainRoom(room)
            points = [(x, y, 50) for x in range(5, 120, 10) for y in range(5, 120, 10) if plain.is_within(x, y)]
            for s, e in itertools.combinations(points, 2):
                self.check_plainly(room, s, e, 0)

    def test_runs_along_a_line(self):
        self.check(GAP_ROOM, (5, 50, 10), (25, 50, 10), 0, [])
        self.check(GAP_ROOM, (5, 50, 10), (25, 50, 40), 0, [])
        self.check(GAP_ROOM, (5, 51, 10), (25, 51, 10), 0, [(400, ())])
        self.check(GAP_ROOM, (5, 49, 10), (25, 49, 10), 0, [])
        # Up to the corner where the line begins, or not so far.
        self.check(GAP_ROOM, (5, 50, 10), (9, 50, 10), 0, [(16, ())])
        self.check(GAP_ROOM, (5, 50, 10), (15, 51, 10), 0, [(101, ())])

    def test_runs_along_a_slanting_line(self):
        # Line 4 runs from (60, 130) to (30, 100); both ends point inwards.
        room = make_room([(0, 0), (90, 0), (90, 150), (60, 150), (60, 130), (30, 100), (20, 110), (0, 110)])
        self.check(room, (10, 80, 30), (70, 140, 30), 0, [])
        self.check(room, (10, 81, 30), (70, 141, 30), 0, [])
        self.check(room, (10, 79, 30), (70, 139, 30), 0, [(2 * 60**2, ())])
        self.check(room, (10, 80, 30), (29, 99, 60), 0, [(2 * 19**2 + 30**2, ())])
        self.check(room, (61, 131, 30), (70, 140, 60), 0, [(2 * 9**2 + 30**2, ())])
        for s, e in (((10, 80), (70, 140)), ((29, 99), (61, 131)), ((10, 79), (61, 131)), ((29, 99), (70, 141))):
            self.check_plainly(room, (*s, 30), (*e, 30), 2)
            self.check_plainly(room, (*e, 30), (*s, 60), 2)

    def test_straight_up(self):
        self.check(ANGLE_ROOM, (50, 50, 1), (50, 50, 99), 0, [(98**2, ())])
        self.check(T, (50, 60, 30), (50, 60, 70), 1, [
            (1600, ()), (10000, (4,)), (10000, (5,)), (1600 + 100**2, (3,)), (1600 + 120**2, (0,)),
            (1600 + 280**2, (2,)), (1600 + 300**2, (1,)),
        ])
        # Beside the gap's corner, level with its sides and its top.
        self.check(GAP_ROOM, (10, 51, 1), (10, 51, 49), 0, [(48**2, ())])

    def test_one_point(self):
        self.check(S, (100, 100, 30), (100, 100, 30), 0, [(0, ())])
        self.check(T, (100, 100, 30), (100, 100, 30), 1, [
            (0, ()), (60**2, (4,)), (140**2, (5,)), (200**2, (0,)), (200**2, (1,)), (200**2, (2,)), (200**2, (3,)),
        ])
        self.check(SLAB_ROOM, (30, 80, 25), (30, 80, 25), 1, [
            (0, ()), (40**2, (2,)), (40**2, (4,)), (50**2, (8,)), (50**2, (9,)), (60**2, (3,)), (140**2, (1,)),
        ])

    def test_through_a_wall(self):
        self.check(SLAB_ROOM, (30, 20, 25), (30, 80, 25), 0, [])
        self.check(SLAB_ROOM, (60, 20, 25), (60, 80, 25), 0, [])
        self.check(SLAB_ROOM, (61, 20, 25), (61, 80, 25), 0, [(3600, ())])
        # One corner of the slab is touched, the other passed by.
        self.check(SLAB_ROOM, (50, 30, 25), (71, 81, 25), 0, [])
        self.check(SLAB_ROOM, (40, 20, 25), (80, 60, 25), 0, [])


class TurnTest(PathsTest):
    """Where a turn falls."""

    def test_one_turn_at_each_wall(self):
        self.check(T, (50, 60, 30), (120, 90, 70), 1, [
            (7400, ()), (70**2 + 30**2 + 100**2, (4,)), (70**2 + 30**2 + 100**2, (5,)),
            (70**2 + 150**2 + 40**2, (0,)), (170**2 + 30**2 + 40**2, (3,)), (230**2 + 30**2 + 40**2, (1,)),
            (70**2 + 250**2 + 40**2, (2,)),
        ])

    def test_slanting_walls(self):
        # Mirrored in the line from (0, 50) to (50, 0), x and y are changed about: (30, 40) comes to (10, 20).
        s, e = (30, 40, 30), (60, 20, 30)
        self.assertIn((50**2, (0,)), self.check_plainly(D, s, e, 1))
        for e in ((100, 100, 30), (60, 60, 20), (30, 170, 30), (160, 30, 30), (170, 150, 40)):
            self.check_plainly(D, (100, 90, 30), e, 3)

    def test_at_a_corner_that_points_inwards(self):
        # The turn would be at (100, 100): there wall 2 ends and wall 3 begins.
        self.check_by(ANGLE_ROOM, (50, 150, 30), (50, 50, 30), (3,), False)
        self.check_by(ANGLE_ROOM, (50, 151, 30), (50, 50, 30), (3,), True)
        self.check_by(ANGLE_ROOM, (50, 149, 30), (50, 50, 30), (3,), False)
        self.check_by(ANGLE_ROOM, (50, 50, 30), (150, 50, 30), (2,), False)
        self.check_by(ANGLE_ROOM, (50, 50, 30), (151, 50, 30), (2,), True)
        self.check_by(ANGLE_ROOM, (50, 50, 30), (149, 50, 30), (2,), False)

    def test_at_a_corner_that_points_outwards(self):
        # From a point through a corner and back it's no path in either order; a little aside it's one in one order.
        for order in ((0, 1), (1, 0)):
            self.check_by(T, (150, 60, 30), (150, 60, 30), order, False)
        self.check_by(T, (150, 60, 30), (150, 61, 30), (0, 1), True)
        self.check_by(T, (150, 60, 30), (150, 61, 30), (1, 0), False)
        self.check_by(T, (150, 60, 30), (149, 60, 30), (1, 0), True)
        self.check_by(T, (150, 60, 30), (149, 60, 30), (0, 1), False)

    def test_at_an_edge_of_wall_and_floor(self):
        for wall, other in itertools.product(range(4), (4, 5)):
            for order in ((wall, other), (other, wall)):
                self.check_by(T, (150, 60, 30), (150, 60, 30), order, False)
        self.check_by(T, (150, 60, 30), (150, 60, 31), (0, 4), False)
        self.check_by(T, (150, 60, 30), (150, 60, 31), (4, 0), True)
        self.check_by(T, (150, 60, 30), (150, 61, 30), (0, 4), True)
        self.check_by(T, (150, 60, 30), (150, 61, 30), (4, 0), False)
        # Three walls meet in a corner on the floor.
        for order in itertools.permutations((0, 1, 4)):
            self.check_by(T, (170, 30, 30), (170, 30, 30), order, False)

    def test_on_the_floor_under_a_line(self):
        # The floor would be met just under the gap's side, at x = 10 and x = 20, or outside, between them.
        self.check_by(GAP_ROOM, (5, 60, 30), (15, 60, 30), (8,), True)
        self.check_by(GAP_ROOM, (5, 40, 30), (15, 60, 30), (8,), False)
        self.check_by(GAP_ROOM, (5, 41, 30), (15, 60, 30), (8,), True)
        self.check_by(GAP_ROOM, (5, 40, 30), (25, 40, 30), (8,), False)
        self.check_by(GAP_ROOM, (5, 40, 30), (25, 60, 30), (8,), False)
        self.check_by(GAP_ROOM, (5, 40, 30), (25, 61, 30), (9,), False)
        self.check_by(GAP_ROOM, (5, 52, 30), (25, 52, 30), (9,), True)

    def test_on_the_floor_at_a_corner(self):
        # Straight over the corner that points inwards the floor would be met.
        for wall in (6, 7):
            self.check_by(ANGLE_ROOM, (50, 150, 30), (150, 50, 30), (wall,), False)
            self.check_by(ANGLE_ROOM, (50, 150, 30), (150, 49, 30), (wall,), True)
            # At the floor it's two thirds of the way to there, at the ceiling four sevenths of another.
            self.check_by(ANGLE_ROOM, (50, 150, 60), (125, 75, 30), (wall,), False)
            self.check_by(ANGLE_ROOM, (50, 150, 60), (125, 74, 30), (wall,), True)
            self.check_by(ANGLE_ROOM, (60, 140, 60), (130, 70, 30), (wall,), False)

    def test_behind_the_end_of_a_wall(self):
        self.check_by(SLAB_ROOM, (50, 80, 25), (69, 80, 25), (4,), True)
        self.check_by(SLAB_ROOM, (50, 80, 25), (70, 80, 25), (4,), False)
        self.check_by(SLAB_ROOM, (50, 80, 25), (71, 80, 25), (4,), False)

    def test_on_the_wrong_side_of_a_wall(self):
        # From below, through the slab, the turn would be in open wall 4, which gives back upwards alone.
        self.check_by(SLAB_ROOM, (20, 20, 25), (40, 20, 25), (4,), False)
        self.check_by(SLAB_ROOM, (20, 20, 25), (40, 20, 25), (6,), True)
        self.check_by(SLAB_ROOM, (20, 80, 25), (40, 80, 25), (6,), False)
        self.check_by(SLAB_ROOM, (20, 80, 25), (40, 80, 25), (4,), True)
        self.check_by(SLAB_ROOM, (20, 20, 25), (40, 80, 25), (4,), False)
        self.check_by(SLAB_ROOM, (80, 20, 25), (80, 80, 25), (5,), True)
        self.check_by(SLAB_ROOM, (80, 20, 25), (80, 60, 25), (5,), False)
        self.check_by(SLAB_ROOM, (80, 20, 25), (80, 61, 25), (5,), True)

    def test_leg_behind_a_turn_is_not_clear(self):
        # The turn is in open wall 1 each time; the leg from there goes into the slab's end, or doesn't.
        self.check_by(SLAB_ROOM, (60, 30, 25), (60, 70, 25), (1,), True)
        self.check_by(SLAB_ROOM, (60, 30, 25), (20, 70, 25), (1,), False)
        self.check_by(SLAB_ROOM, (60, 30, 25), (20, 90, 25), (1,), True)
        # Both legs touch a corner of the slab, or just pass it, or neither is clear.
        self.check_by(SLAB_ROOM, (20, 30, 25), (20, 70, 25), (1,), False)
        self.check_by(SLAB_ROOM, (20, 29, 25), (20, 71, 25), (1,), True)
        self.check_by(SLAB_ROOM, (20, 31, 25), (20, 69, 25), (1,), False)

    def test_same_wall_twice(self):
        s, e = (50, 60, 30), (120, 90, 70)
        for wall in range(6):
            self.check_by(T, s, e, (wall, wall), False)
        self.check_by(T, s, e, (0, 2, 0), True)
        self.check_by(T, s, e, (1, 3, 1), True)
        self.check_by(T, s, e, (4, 5, 4), True)
        self.check_by(T, s, e, (5, 4, 5), True)
        self.check_by(T, s, e, (0, 0, 2), False)
        self.check_by(T, s, e, (0, 2, 0, 2), True)
        self.check_by(T, (100, 100, 50), (100, 100, 50), (0, 2, 0), True)

    def test_two_walls_in_one_plane(self):
        # Walls 0 and 4 of the gap's room lie at y = 0, walls 3 and 7 of the slab's at x = 0.
        self.check_by(GAP_ROOM, (5, 60, 25), (25, 60, 25), (0, 4), False)
        self.check_by(SLAB_ROOM, (80, 20, 25), (80, 80, 25), (7, 3), False)
        # Walls 1 and 7 lie at x = 100, the room being below 100 at the one and above it at the other.
        room = make_room([(0, 0), (100, 0), (100, 50), (150, 50), (150, 0), (200, 0), (200, 150), (100, 150),
                          (100, 100), (0, 100)])
        for s, e in itertools.product(((50, 60, 30), (30, 75, 30), (180, 140, 30), (120, 60, 60)), repeat=2):
            self.check_by(room, s, e, (1, 7), False)
            self.check_by(room, s, e, (7, 1), False)

    def test_a_turn_between_whole_numbers(self):
        self.check_by(T, (50, 61, 31), (123, 90, 70), (4, 0, 1), True)
        self.check_by(T, (50, 61, 31), (123, 90, 70), (0, 4, 1), False)
        self.check_by(T, (1, 1, 1), (198, 197, 98), (2, 1), True)


class RoomsTest(PathsTest):
    """Rooms in all eight directions, turned and mirrored, with corners that point inwards."""

    PLANS = (TRIANGLE, ANGLE, OCTAGON, SLAB, make_saw(8), make_comb(8))

    def test_however_it_lies(self):
        choice = random.Random(4)
        for corners in self.PLANS:
            for quarter in range(4):
                for plan in (corners, mirror(corners, 300)):
                    number = choice.randrange(len(plan))
                    room = make_room(begin_at(plan, number), [place % 8 for place in range(len(plan))], (50, 6, 7))
                    points = list_some_points(choice, room, 4)
                    for s, e in itertools.combinations(points, 2):
                        self.check_plainly(room, s, e, 2)
                corners = turn(corners, 300)

    def test_turned_and_mirrored_it_is_the_same(self):
        s, e = (50, 150, 30), (150, 50, 70)
        expected = energy(*s, *e, 3, *WHOLE_RANGE, ANGLE_ROOM, RISING)
        corners, stuffs, (a, b), (c, d) = ANGLE, [7, 6, 5, 4, 3, 2], s[:2], e[:2]
        for quarter in range(4):
            room = make_room(corners, stuffs, (100, 1, 0))
            self.assertEqual(energy(a, b, 30, c, d, 70, 3, *WHOLE_RANGE, room, RISING), expected)
            # Walked the other way, each wall begins where it ended: the stuffs go round by one more.
            other = make_room(mirror(corners, 300), stuffs[-2::-1] + stuffs[-1:], (100, 1, 0))
            self.assertEqual(energy(300 - a, b, 30, 300 - c, d, 70, 3, *WHOLE_RANGE, other, RISING), expected)
            corners = turn(corners, 300)
            a, b, c, d = 300 - b, a, 300 - d, c

    def test_numbered_from_another_corner(self):
        for s, e in (((50, 150, 30), (150, 50, 70)), ((20, 30, 10), (250, 70, 20))):
            expected = energy(*s, *e, 3, *WHOLE_RANGE, ANGLE_ROOM, RISING)
            for number in range(6):
                room = make_room(begin_at(ANGLE, number), begin_at([7, 6, 5, 4, 3, 2], number), (100, 1, 0))
                self.assertEqual(energy(*s, *e, 3, *WHOLE_RANGE, room, RISING), expected)

    def test_large_rooms(self):
        for corners in (SQUARE, TRIANGLE, ANGLE, OCTAGON):
            large = [(x * 13, y * 13) for x, y in corners]
            room = make_room(large, [place % 8 for place in range(len(large))], (4095, 6, 7))
            for s, e in (((17, 23, 4094), (1287, 701, 1)), ((500, 400, 2000), (401, 777, 2100))):
                if PlainRoom(room).is_inside(s) and PlainRoom(room).is_inside(e):
                    self.check_plainly(room, s, e, 3)
        room = make_room([(0, 0), (4095, 0), (4095, 4095), (0, 4095)], [0, 1, 2, 3], (4095, 6, 7))
        self.check_plainly(room, (1, 1, 1), (4094, 4094, 4094), 4)

    def test_small_rooms(self):
        room = make_room([(4093, 4093), (4095, 4093), (4095, 4095), (4093, 4095)], [0, 1, 2, 3], (2, 6, 7))
        self.check_plainly(room, (4094, 4094, 1), (4094, 4094, 1), 4)
        # In the least room nothing whole is inside.
        check_answer(self, energy(0, 0, 0, 1, 1, 1, 4, *WHOLE_RANGE, make_room([(0, 0), (1, 0), (0, 1)]), RISING), [-3])


def list_some_points(choice, room, count):
    """That many points inside of a room, of all sizes."""
    plain = PlainRoom(room)
    points = []
    while len(points) < count:
        x = choice.randrange(min(plain.corners)[0], max(plain.corners)[0])
        y = choice.randrange(max(y for x, y in plain.corners))
        if plain.is_within(x, y):
            points.append((x, y, choice.randrange(1, room[0])))
    return points


class ManyWallsTest(PathsTest):
    """As many turns as may be: the walls to the power of most come near 20000."""

    def test_most_from_0_to_4(self):
        for most, count in enumerate((1, 7, 25, 63, 129)):
            self.assertEqual(len(self.check_plainly(T, (50, 60, 30), (120, 90, 70), most)), count)
        for most in range(5):
            self.check_plainly(L, (50, 150, 30), (150, 50, 70), most)
            self.check_plainly(make_room(TRIANGLE, [1, 2, 3]), (50, 60, 30), (21, 90, 70), most)

    def test_four_turns(self):
        nine = [(0, 0), (200, 0), (400, 200), (400, 400), (300, 400), (250, 350), (200, 400), (100, 400), (0, 300)]
        for corners in (SQUARE, TRIANGLE, [(0, 0), (200, 0), (200, 100), (100, 200), (0, 200)], nine):
            room = make_room(corners, [place % 8 for place in range(len(corners))], (90, 6, 7))
            self.assertLessEqual((len(corners) + 2)**4, 20000)
            self.assertEqual(gains(0, room, RISING, [])[0], 0)
            paths = self.check_plainly(room, (50, 60, 30), (70, 80, 61), 4)
            self.assertIn(4, [len(walls) for length2, walls in paths])

    def test_three_turns(self):
        room = make_room(NOTCHED, [place % 8 for place in range(25)], (90, 6, 7))
        self.assertEqual((len(NOTCHED), 27**3 <= 20000), (25, True))
        self.assertEqual(gains(0, room, RISING, [])[0], 0)
        for s, e in (((15, 60, 30), (72, 81, 61)), ((5, 20, 30), (105, 70, 31))):
            paths = self.check_plainly(room, s, e, 3)
            self.assertIn(3, [len(walls) for length2, walls in paths])

    def test_two_turns(self):
        for corners in (make_saw(64), make_comb(64)):
            room = make_room(corners, [place % 8 for place in range(64)], (90, 6, 7))
            self.assertLessEqual(66**2, 20000)
            paths = self.check_plainly(room, (15, 60, 30), (212, 81, 61), 2)
            self.assertIn(2, [len(walls) for length2, walls in paths])

    def test_one_turn_and_none(self):
        for corners in (make_saw(64), make_comb(64)):
            room = make_room(corners, [place % 8 for place in range(64)], (90, 6, 7))
            for most in (0, 1):
                for s, e in itertools.combinations(list_some_points(random.Random(5), room, 5), 2):
                    self.check_plainly(room, s, e, most)


class DrawnTest(PathsTest):
    def test_many_rooms(self):
        choice = random.Random(6)
        turns = {}
        for time in range(250):
            room, book = draw_room(choice), draw_book(choice)
            points = list_points(room)
            if points:
                s, e = choice.choice(points), choice.choice(points)
                paths = self.check_plainly(room, s, e, draw_most(choice, room, 2500), book)
                turns.update({len(walls): True for length2, walls in paths})
        self.assertEqual(sorted(turns), [0, 1, 2, 3, 4])

    def test_all_points_of_small_rooms(self):
        choice = random.Random(7)
        for time in range(12):
            room = draw_room(choice, height=4)
            points = [point for point in list_points(room) if point[2] == 1]
            for s, e in choice.sample(list(itertools.product(points, repeat=2)), min(60, len(points)**2)):
                self.check_plainly(room, s, e, 1)


if __name__ == "__main__":
    unittest.main()
