package plane

import (
	"cmp"
	"slices"

	"silverside/api"
)

// Hull returns the corners of the hull of a set of points, counterclockwise, beginning with the one with the least X, and among these the one with the least Y.
func Hull(points []api.Point) ([]api.Point, api.Errno) {
	if !isSet(points) {
		return nil, api.ErrArg
	}
	return corners(points), api.OK
}

// Widest returns the greatest square of the distance of two points of a set.
func Widest(points []api.Point) (int, api.Errno) {
	if !isSet(points) {
		return 0, api.ErrArg
	}
	widest := 0
	far := corners(points)
	for i, p := range far {
		for _, q := range far[i+1:] {
			widest = max(widest, distance(p, q))
		}
	}
	return widest, api.OK
}

// Nearest returns the least square of the distance of two points at different positions of the list.
func Nearest(points []api.Point) (int, api.Errno) {
	if !isSet(points) || len(points) == 1 {
		return 0, api.ErrArg
	}
	nearest := distance(points[0], points[1])
search:
	for i, p := range points {
		for _, q := range points[i+1:] {
			if p == q { // no two points are nearer than equal ones
				nearest = 0
				break search
			}
			nearest = min(nearest, distance(p, q))
		}
	}
	return nearest, api.OK
}

// distance is the square of the distance.
func distance(p, q api.Point) int {
	return (q.X-p.X)*(q.X-p.X) + (q.Y-p.Y)*(q.Y-p.Y)
}

// corners joins the chain below the set, from left to right, and the one above it, from right to left.
func corners(points []api.Point) []api.Point {
	sorted := slices.Clone(points)
	slices.SortFunc(sorted, compare)
	sorted = slices.Compact(sorted)
	n := len(sorted)
	if n == 1 {
		return sorted
	}
	// The third index ends the first chain's half of the room where the second chain's begins.
	room := make([]api.Point, 2*n)
	lower := chain(room[0:0:n], sorted)
	slices.Reverse(sorted)
	upper := chain(room[n:n:2*n], sorted)
	// Each chain ends with the point that the other one begins with.
	return slices.Concat(lower[:len(lower)-1], upper[:len(upper)-1])
}

func compare(p, q api.Point) int {
	return cmp.Or(cmp.Compare(p.X, q.X), cmp.Compare(p.Y, q.Y))
}

// chain pushes the points, and takes those off again at which the chain would not turn left.
func chain(stack, points []api.Point) []api.Point {
	for _, p := range points {
		for len(stack) > 1 && turn(stack[len(stack)-2], stack[len(stack)-1], p) != 1 {
			stack = stack[:len(stack)-1]
		}
		stack = append(stack, p)
	}
	return stack
}
