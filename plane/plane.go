// Package plane is layer 1: exact geometry for the outlines of carcasses and cuts. See shared/doc/01-plane.md.
package plane

import (
	"cmp"

	"silverside/api"
)

// Turn returns 1 if c is to the left of the line from a to b, -1 if it is to the right, and 0 if the three are on one line.
func Turn(a, b, c api.Point) (int, api.Errno) {
	if !valid(a) || !valid(b) || !valid(c) {
		return 0, api.ErrArg
	}
	return turn(a, b, c), api.OK
}

// Area returns the double area, which is positive for a polygon that runs counterclockwise.
func Area(points []api.Point) (int, api.Errno) {
	if len(points) > api.MaxPoints || !allValid(points) {
		return 0, api.ErrArg
	}
	return doubleArea(points), api.OK
}

func valid(p api.Point) bool {
	return inRange(p.X, api.MaxCoord) && inRange(p.Y, api.MaxCoord)
}

func allValid(points []api.Point) bool {
	for _, p := range points {
		if !valid(p) {
			return false
		}
	}
	return true
}

// isSet looks at the length first, so that a list of any length is refused at once.
func isSet(points []api.Point) bool {
	return len(points) >= 1 && len(points) <= api.MaxPoints && allValid(points)
}

// inRange compares with both ends, because the least int has no absolute value.
func inRange(number, most int) bool {
	return number >= -most && number <= most
}

// cross is the double area of the triangle a, b, c: positive if c is to the left of the line from a to b.
func cross(a, b, c api.Point) int {
	return (b.X-a.X)*(c.Y-a.Y) - (b.Y-a.Y)*(c.X-a.X)
}

func turn(a, b, c api.Point) int {
	return cmp.Compare(cross(a, b, c), 0)
}

func doubleArea(points []api.Point) int {
	sum := 0
	for _, e := range edges(points) {
		sum += e.from.X*e.to.Y - e.to.X*e.from.Y
	}
	return sum
}

// edge leads from one point of a list to the next one.
type edge struct {
	from, to api.Point
}

// edges returns the edges of a list of points, the one from its last point to its first included.
func edges(points []api.Point) []edge {
	list := make([]edge, len(points))
	for i, p := range points {
		list[i] = edge{p, points[(i+1)%len(points)]}
	}
	return list
}

// touch reports whether two edges have a point in common. An edge may be a single point.
func touch(e, f edge) bool {
	if !boxesTouch(e, f) {
		return false
	}
	if turn(e.from, e.to, f.from)*turn(e.from, e.to, f.to) > 0 {
		return false
	}
	return turn(f.from, f.to, e.from)*turn(f.from, f.to, e.to) <= 0
}

// boxesTouch also decides for edges on one line, whose turns are all 0.
func boxesTouch(e, f edge) bool {
	return spansTouch(e.from.X, e.to.X, f.from.X, f.to.X) && spansTouch(e.from.Y, e.to.Y, f.from.Y, f.to.Y)
}

func spansTouch(a, b, c, d int) bool {
	return min(a, b) <= max(c, d) && min(c, d) <= max(a, b)
}
