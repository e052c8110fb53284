"""Rooms as lists: h, the floor's stuff, the ceiling's; then of each corner x, y and the stuff of its wall."""

FEWEST_CORNERS = 3
MOST_CORNERS = 64
GREATEST_PLACE = 4095
GREATEST_STUFF = 7


def list_corners(room):
    """Of each corner x, y and the stuff of its wall."""
    return [(room[place], room[place + 1], room[place + 2]) for place in range(3, len(room), 3)]


def count_walls(room):
    """The side walls, the floor and the ceiling: as many as the list has threes, and one."""
    return len(room) // 3 + 1


def find_stuff(room, wall):
    """The stuff of a side wall, of the floor or of the ceiling, which are numbered last."""
    floor = count_walls(room) - 2
    if wall < floor:
        return room[3 * wall + 5]
    return room[1 + wall - floor]


def has_right_length(room):
    return len(room) % 3 == 0 and FEWEST_CORNERS <= len(room) // 3 - 1 <= MOST_CORNERS


def is_place(number):
    return 0 <= number <= GREATEST_PLACE


def is_stuff(number):
    return 0 <= number <= GREATEST_STUFF


def has_right_head(room):
    return 1 <= room[0] <= GREATEST_PLACE and is_stuff(room[1]) and is_stuff(room[2])


def is_corner(corner):
    return is_place(corner[0]) and is_place(corner[1]) and is_stuff(corner[2])


def find_ends(corners, line):
    """Where that line begins and ends; the line behind the last is line 0."""
    return (corners[line % len(corners)], corners[(line + 1) % len(corners)])


def find_run(corners, line):
    """How far that line runs along x and along y."""
    ends = find_ends(corners, line)
    return (ends[1][0] - ends[0][0], ends[1][1] - ends[0][1])


def runs_in_a_direction(corners, line):
    """Whether the line has a length and one of the eight directions."""
    run = find_run(corners, line)
    if run[0] == 0 or run[1] == 0:
        return run[0] != run[1]
    return abs(run[0]) == abs(run[1])


def goes_straight_on(corners, line):
    """Whether the line and the next one run in one direction or in opposite ones."""
    first = find_run(corners, line)
    second = find_run(corners, line + 1)
    return first[0] * second[1] == first[1] * second[0]


def find_side(start, end, point):
    """Above 0 if the point is to the left of the way from start to end, 0 if it is straight ahead or behind."""
    return (end[0] - start[0]) * (point[1] - start[1]) - (end[1] - start[1]) * (point[0] - start[0])


def ranges_meet(first, second, axis):
    """Whether two lines, each a pair of ends, have a number in common along that axis."""
    lower = max(min(first[0][axis], first[1][axis]), min(second[0][axis], second[1][axis]))
    upper = min(max(first[0][axis], first[1][axis]), max(second[0][axis], second[1][axis]))
    return lower <= upper


def reaches_across(first, second):
    """Whether the second line's ends are not both on one side of the first line, drawn on without end."""
    return find_side(first[0], first[1], second[0]) * find_side(first[0], first[1], second[1]) <= 0


def lines_meet(first, second):
    """Whether two lines have a point in common, their ends being points of them."""
    # The ranges part two lines that lie behind one another: of those each seems to reach across the other.
    if not (ranges_meet(first, second, 0) and ranges_meet(first, second, 1)):
        return False
    return reaches_across(first, second) and reaches_across(second, first)


def is_crossed_ahead(line, point):
    """Whether the way from the point along x, drawn on without end, crosses the line."""
    # Of two lines that meet at a corner level with the point just the one counts that goes up from there.
    if line[0][1] <= point[1] < line[1][1]:
        return find_side(line[0], line[1], point) > 0
    if line[1][1] <= point[1] < line[0][1]:
        return find_side(line[0], line[1], point) < 0
    return False


def is_within(corners, point):
    """Whether the point of the plan is strictly within the lines: on none of them."""
    lines = [find_ends(corners, line) for line in range(len(corners))]
    if any([lines_meet(line, (point, point)) for line in lines]):
        return False
    return len([line for line in lines if is_crossed_ahead(line, point)]) % 2 == 1


def is_inside(room, point):
    """Whether the point is inside: within the lines, above the floor and below the ceiling."""
    return 0 < point[2] < room[0] and is_within(list_corners(room), point)


def meets_a_later_line(corners, line):
    """Whether the line has a point in common with a later one that isn't its neighbour."""
    # Earlier ones need no look: the earlier of the two is the one that is told.
    for other in range(line + 2, len(corners)):
        is_neighbour = (other + 1) % len(corners) == line
        if not is_neighbour and lines_meet(find_ends(corners, line), find_ends(corners, other)):
            return True
    return False


def breaks_rule(corners, rule, wall):
    """Whether that wall breaks that rule, of those that look at each wall."""
    if rule == 3:
        return not is_corner(corners[wall])
    if rule == 4:
        return not runs_in_a_direction(corners, wall)
    if rule == 5:
        return goes_straight_on(corners, wall)
    return meets_a_later_line(corners, wall)


def measure_twice(corners):
    """Twice the area within the lines, below 0 if it is to the right of those who walk them."""
    area = 0
    for line in range(len(corners)):
        ends = find_ends(corners, line)
        area = area + ends[0][0] * ends[1][1] - ends[1][0] * ends[0][1]
    return area


def find_room_fault(room):
    """The rule that is broken first and the wall told with it, or None if it is a room."""
    # In this order, since each rule can be asked only of what the ones before it let through.
    if not has_right_length(room):
        return (1, 0)
    if not has_right_head(room):
        return (2, 0)
    corners = list_corners(room)
    for rule in (3, 4, 5, 6):
        for wall in range(len(corners)):
            if breaks_rule(corners, rule, wall):
                return (rule, wall)
    if measure_twice(corners) < 0:
        return (7, 0)
    return None
