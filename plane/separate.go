package plane

import (
	"silverside/api"
)

// What a right verdict is bounded by.
const (
	maxDivisor = 1 << 30
	maxShared  = 1 << 42 // of X and Y
	maxFactor  = 1 << 30 // of U and V
	maxLine    = 1 << 60 // of W
)

// Separate returns a right verdict about two sets of points.
func Separate(a, b []api.Point) (api.Apart, api.Errno) {
	if !isSet(a) || !isSet(b) {
		return api.Apart{}, api.ErrArg
	}
	first, second := corners(a), corners(b)
	if v, ok := line(first, second); ok {
		return v, api.OK
	}
	p := shared(first, second)
	return api.Apart{Meet: true, X: p.x, Y: p.y, D: p.d}, api.OK
}

// Check returns OK if v is right.
func Check(a, b []api.Point, v api.Apart) api.Errno {
	if !isSet(a) || !isSet(b) {
		return api.ErrArg
	}
	first, second := corners(a), corners(b)
	if v.Meet && rightPlace(first, second, v) || !v.Meet && rightLine(first, second, v) {
		return api.OK
	}
	return api.ErrAnswer
}

func rightPlace(first, second []api.Point, v api.Apart) bool {
	if v.U != 0 || v.V != 0 || v.W != 0 || v.D < 1 || v.D > maxDivisor {
		return false
	}
	if !inRange(v.X, maxShared) || !inRange(v.Y, maxShared) {
		return false
	}
	p := place{v.X, v.Y, v.D}
	return holds(first, p) && holds(second, p)
}

func rightLine(first, second []api.Point, v api.Apart) bool {
	if v.X != 0 || v.Y != 0 || v.D != 0 || !inRange(v.W, maxLine) {
		return false
	}
	if !inRange(v.U, maxFactor) || !inRange(v.V, maxFactor) {
		return false
	}
	_, high := reach(first, vector{v.U, v.V})
	low, _ := reach(second, vector{v.U, v.V})
	return high < v.W && low > v.W
}

// vector is a direction.
type vector struct {
	x, y int
}

// reach returns how far the corners of a hull reach in a direction: the least and the greatest product with it.
func reach(hull []api.Point, v vector) (low, high int) {
	low = v.x*hull[0].X + v.y*hull[0].Y
	high = low
	for _, p := range hull[1:] {
		product := v.x*p.X + v.y*p.Y
		low, high = min(low, product), max(high, product)
	}
	return low, high
}

// line looks for a line between two hulls. The doubled direction makes room for a whole number between the two reaches.
func line(first, second []api.Point) (api.Apart, bool) {
	for _, v := range directions(first, second) {
		low, high := reach(first, v)
		from, to := reach(second, v)
		if high < from {
			return api.Apart{U: 2 * v.x, V: 2 * v.y, W: high + from}, true
		}
		if to < low {
			return api.Apart{U: -2 * v.x, V: -2 * v.y, W: -(to + low)}, true
		}
	}
	return api.Apart{}, false
}

// directions returns directions of which one tells two hulls apart if any does. The differences of their points are a convex set. If it does not contain 0, then 0 is beyond one of its edges, which are parallel to edges of the hulls; or it is a part of a line through 0, and each of the differences leads along this line.
func directions(first, second []api.Point) []vector {
	list := []vector{{second[0].X - first[0].X, second[0].Y - first[0].Y}}
	for _, hull := range [][]api.Point{first, second} {
		for _, e := range edges(hull) {
			list = append(list, vector{e.from.Y - e.to.Y, e.to.X - e.from.X})
		}
	}
	return list
}

// place is the point (x/d, y/d).
type place struct {
	x, y, d int
}

// shared returns a point of two hulls that no line separates. What they have in common has a corner, which is a corner of one of them, or a point where their edges cross.
func shared(first, second []api.Point) place {
	for _, p := range first {
		if at := (place{p.X, p.Y, 1}); holds(second, at) {
			return at
		}
	}
	for _, p := range second {
		if at := (place{p.X, p.Y, 1}); holds(first, at) {
			return at
		}
	}
	return crossing(first, second)
}

// crossing looks for edges that touch. They are not parallel, as no corner of one hull is in the other one.
func crossing(first, second []api.Point) place {
	for _, e := range edges(first) {
		for _, f := range edges(second) {
			if touch(e, f) {
				return meeting(e, f)
			}
		}
	}
	return place{}
}

// meeting weighs the ends of the edge e by how far they are from the line of f.
func meeting(e, f edge) place {
	from, to := cross(f.from, f.to, e.from), cross(f.from, f.to, e.to)
	if from < to {
		from, to = -from, -to
	}
	return place{
		x: from*e.to.X - to*e.from.X,
		y: from*e.to.Y - to*e.from.Y,
		d: from - to,
	}
}

// holds reports whether a hull contains the point p: p is to the right of none of its edges, and, if the hull has no inside, not beyond their ends.
func holds(hull []api.Point, p place) bool {
	for _, e := range edges(hull) {
		width, height := e.to.X-e.from.X, e.to.Y-e.from.Y
		if width*(p.y-e.from.Y*p.d) < height*(p.x-e.from.X*p.d) {
			return false
		}
		if len(hull) < 3 && !between(e, p) {
			return false
		}
	}
	return true
}

// between reports whether p is in the box of an edge.
func between(e edge, p place) bool {
	return min(e.from.X, e.to.X)*p.d <= p.x && p.x <= max(e.from.X, e.to.X)*p.d &&
		min(e.from.Y, e.to.Y)*p.d <= p.y && p.y <= max(e.from.Y, e.to.Y)*p.d
}
