"""Paths from a start to an end by turns at walls.

Seen in its walls, a path is one straight way. So the start is mirrored in the walls from the first on, the end in
the walls from the last back: each leg lies on the straight way from one of those starts to one of those ends.
Points are (x, y, z); points of a path (x, y, z, whole), each of the three being a fraction over that whole.
"""

from wallbands.plans import find_ends
from wallbands.plans import find_run
from wallbands.plans import find_side
from wallbands.plans import is_within
from wallbands.plans import lines_meet
from wallbands.plans import list_corners
from wallbands.plans import reaches_across


def find_side_plane(corners, wall):
    """The plane of a side wall, told as in list_planes."""
    run = find_run(corners, wall)
    length = max(abs(run[0]), abs(run[1]))
    # A quarter to the left of the line, for there is the room.
    a = -run[1] // length
    b = run[0] // length
    return (a, b, 0, a * corners[wall][0] + b * corners[wall][1])


def list_planes(room):
    """Of each wall's plane a, b, c, d: the points on it have a x + b y + c z = d, those on the room's side more."""
    corners = list_corners(room)
    sides = [find_side_plane(corners, wall) for wall in range(len(corners))]
    return sides + [(0, 0, 1, 0), (0, 0, -1, -room[0])]


def measure_height(plane, point):
    """How high above the plane the point is, on the room's side; of slanting planes in a measure of their own."""
    return plane[0] * point[0] + plane[1] * point[1] + plane[2] * point[2] - plane[3]


def mirror(plane, point):
    """The point mirrored in the plane."""
    square = plane[0] * plane[0] + plane[1] * plane[1] + plane[2] * plane[2]
    # The square is 1, or 2 of slanting planes: nothing is rounded here.
    steps = 2 * measure_height(plane, point) // square
    return (point[0] - steps * plane[0], point[1] - steps * plane[1], point[2] - steps * plane[2])


def lengthen_way(planes, way):
    """The way by each wall that its next turn can be at."""
    walls = way[0]
    starts = way[1]
    # A path comes to a wall from the room's side, so that is where the last mirrored start has to be.
    return [
        (walls + [wall], starts + [mirror(plane, starts[-1])])
        for wall, plane in enumerate(planes) if measure_height(plane, starts[-1]) > 0
    ]


def list_ways(planes, start, most):
    """Of all ways by at most that many walls the walls, and the start mirrored in none of them, in one, in two .."""
    newest = [([], [start])]
    ways = list(newest)
    for turn in range(most):
        longer = []
        for way in newest:
            longer.extend(lengthen_way(planes, way))
        newest = longer
        ways.extend(newest)
    return ways


def list_seen_ends(planes, walls, end):
    """The end as it is seen from each leg: mirrored in all the walls that are still ahead."""
    ends = [end]
    for wall in reversed(walls):
        ends.append(mirror(planes[wall], ends[-1]))
    return list(reversed(ends))


def list_heights(planes, walls, starts, ends):
    """Of each turn how high above its wall are what is before it and what is behind it."""
    return [
        (measure_height(planes[wall], starts[turn]), measure_height(planes[wall], ends[turn + 1]))
        for turn, wall in enumerate(walls)
    ]


def are_in_order(heights):
    """Whether each turn is on the way and comes later on it than the one before."""
    if any([behind <= 0 for before, behind in heights]):
        return False
    # A turn parts the whole way as its two heights are to one another.
    return all([
        earlier[0] * later[1] < later[0] * earlier[1]
        for earlier, later in zip(heights, heights[1:])
    ])


def part_way(start, end, heights):
    """The point that parts the way from start to end as the two heights are to one another."""
    before = heights[0]
    behind = heights[1]
    return (
        start[0] * behind + end[0] * before,
        start[1] * behind + end[1] * before,
        start[2] * behind + end[2] * before,
        before + behind,
    )


def enlarge(corners, whole):
    """The corners as many times as large, without their stuffs."""
    return [(corner[0] * whole, corner[1] * whole) for corner in corners]


def is_in_open_wall(room, wall, point):
    """Whether a point of the wall's plane is in the open wall."""
    corners = enlarge(list_corners(room), point[3])
    place = (point[0], point[1])
    if wall >= len(corners):
        return is_within(corners, place)
    line = find_ends(corners, wall)
    is_between = lines_meet(line, (place, place)) and place not in line
    return is_between and 0 < point[2] < room[0] * point[3]


def cuts_leg(line, leg):
    """Whether the line comes from one side of the leg to the other or ends on it, strictly between the leg's ends."""
    return find_side(line[0], line[1], leg[0]) * find_side(line[0], line[1], leg[1]) < 0 and reaches_across(leg, line)


def is_clear(corners, start, end):
    """Whether it's clear between two points of a path, next to one another."""
    # Each leg sets out into the room, so it's clear unless something is in its way. That's neither floor nor ceiling:
    # both ends are between them, and no leg runs along them. A line that runs along a leg has an end on it, and
    # there its neighbour cuts the leg.
    leg = ((start[0] * end[3], start[1] * end[3]), (end[0] * start[3], end[1] * start[3]))
    enlarged = enlarge(corners, start[3] * end[3])
    return not any([cuts_leg(find_ends(enlarged, line), leg) for line in range(len(enlarged))])


def is_path(room, walls, points):
    """Whether each turn is in its open wall and each leg is clear; points are the start, the turns and the end."""
    if not all([is_in_open_wall(room, wall, points[turn + 1]) for turn, wall in enumerate(walls)]):
        return False
    corners = list_corners(room)
    return all([is_clear(corners, point, after) for point, after in zip(points, points[1:])])


def measure_length2(start, end):
    """The square of how far it is from start to end."""
    x = end[0] - start[0]
    y = end[1] - start[1]
    z = end[2] - start[2]
    return x * x + y * y + z * z


def find_paths(room, start, end, most):
    """Of each path from start to end of at most that many turns its length squared and its walls."""
    planes = list_planes(room)
    paths = []
    for way in list_ways(planes, start, most):
        walls = way[0]
        starts = way[1]
        ends = list_seen_ends(planes, walls, end)
        heights = list_heights(planes, walls, starts, ends)
        if are_in_order(heights):
            turns = [part_way(starts[turn], ends[turn], heights[turn]) for turn in range(len(walls))]
            points = [start + (1,)] + turns + [end + (1,)]
            if is_path(room, walls, points):
                paths.append((measure_length2(start, ends[0]), walls))
    return paths
