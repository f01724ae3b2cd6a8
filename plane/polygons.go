package plane

import (
	"silverside/api"
)

// Simple reports whether this is a simple polygon.
func Simple(polygon []api.Point) bool {
	if len(polygon) < 3 || !isSet(polygon) {
		return false
	}
	sides := edges(polygon)
	for i, e := range sides {
		if e.from == e.to || foldsBack(e, sides[(i+1)%len(sides)]) {
			return false
		}
	}
	return !crossesItself(sides)
}

// foldsBack reports whether an edge and the one that follows it have more than their common point in common: they lead to it from the same direction.
func foldsBack(e, next edge) bool {
	a, b, c := e.from, e.to, next.to
	return turn(a, b, c) == 0 && (a.X-b.X)*(c.X-b.X)+(a.Y-b.Y)*(c.Y-b.Y) > 0
}

// crossesItself reports whether two edges that do not follow one another have a point in common.
func crossesItself(sides []edge) bool {
	last := len(sides) - 1
	for i, e := range sides {
		for j := i + 2; j <= last; j++ {
			if i == 0 && j == last { // the first edge follows the last one
				continue
			}
			if touch(e, sides[j]) {
				return true
			}
		}
	}
	return false
}

// Inside returns 1 if p is inside the polygon, 0 if it is on an edge, and -1 otherwise.
func Inside(polygon []api.Point, p api.Point) (int, api.Errno) {
	if !Simple(polygon) || !valid(p) {
		return 0, api.ErrArg
	}
	place := -1
	for _, e := range edges(polygon) {
		if touch(e, edge{p, p}) {
			return 0, api.OK
		}
		if crossesRay(e, p) {
			place = -place
		}
	}
	return place, api.OK
}

// crossesRay reports whether an edge crosses the ray from p to the right. Of the ends of an edge only the upper one is above a ray that it touches, so that a corner on the ray counts once if the outline crosses there, and twice or not at all if not.
func crossesRay(e edge, p api.Point) bool {
	if (e.from.Y > p.Y) == (e.to.Y > p.Y) {
		return false
	}
	upward := e.to.Y > e.from.Y
	return upward == (cross(e.from, e.to, p) > 0)
}
