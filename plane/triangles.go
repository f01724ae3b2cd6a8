package plane

import (
	"cmp"
	"slices"

	"silverside/api"
)

// Triangulate returns a triangulation of a simple polygon.
func Triangulate(polygon []api.Point) ([][3]int, api.Errno) {
	if !Simple(polygon) {
		return nil, api.ErrArg
	}
	whole := make([]int, len(polygon))
	for i := range whole {
		whole[i] = i
	}
	way := direction(polygon)
	triangles := make([][3]int, 0, len(polygon)-2)
	parts := [][]int{whole}
	for len(parts) > 0 {
		last := len(parts) - 1
		part := fromCorner(polygon, parts[last])
		parts = parts[:last]
		at, found := farthest(polygon, part, way)
		if found {
			parts = append(parts, part[:at+1], append([]int{part[0]}, part[at:]...))
			continue
		}
		triangles = append(triangles, [3]int{part[0], part[1], part[len(part)-1]})
		if len(part) > 3 {
			parts = append(parts, part[1:])
		}
	}
	return triangles, api.OK
}

// direction is 1 if a polygon runs counterclockwise, and -1 otherwise.
func direction(polygon []api.Point) int {
	return cmp.Compare(doubleArea(polygon), 0)
}

// fromCorner lets a part begin with its least point, where it never runs straight on, so that this point and its two neighbours are a triangle.
func fromCorner(polygon []api.Point, part []int) []int {
	first := 0
	for i, position := range part {
		if compare(polygon[position], polygon[part[first]]) < 0 {
			first = i
		}
	}
	return slices.Concat(part[first:], part[:first])
}

// farthest looks for points of a part in the triangle of its first, second and last point. If there are any, it returns where in the part the one is that is farthest from the line through the second and the last: nothing is between it and the first point, so that the part can be cut from one to the other. If there are none, the triangle itself can be cut off.
func farthest(polygon []api.Point, part []int, way int) (int, bool) {
	tip, next, last := polygon[part[0]], polygon[part[1]], polygon[part[len(part)-1]]
	at, most := 0, -1
	for i := 2; i < len(part)-1; i++ {
		p := polygon[part[i]]
		far := way * cross(next, last, p)
		if far > most && way*cross(tip, next, p) >= 0 && way*cross(last, tip, p) >= 0 {
			at, most = i, far
		}
	}
	return at, most >= 0
}

// Covers returns OK if triangles is a triangulation of the polygon.
func Covers(polygon []api.Point, triangles [][3]int) api.Errno {
	if !Simple(polygon) {
		return api.ErrArg
	}
	if !isTriangulation(polygon, triangles) {
		return api.ErrAnswer
	}
	return api.OK
}

func isTriangulation(polygon []api.Point, triangles [][3]int) bool {
	n := len(polygon)
	if len(triangles) != n-2 {
		return false
	}
	way := direction(polygon)
	sides := map[[2]int]int{}
	for _, t := range triangles {
		if min(t[0], t[1], t[2]) < 0 || max(t[0], t[1], t[2]) >= n {
			return false
		}
		if turn(polygon[t[0]], polygon[t[1]], polygon[t[2]]) != way {
			return false
		}
		for i := range t {
			sides[[2]int{t[i], t[(i+1)%3]}]++
		}
	}
	return sidesFit(sides, n)
}

// sidesFit takes, for each ordered pair of positions, the number of triples of which it is a side.
func sidesFit(sides map[[2]int]int, n int) bool {
	for i := range n {
		next := (i + 1) % n
		if sides[[2]int{i, next}] != 1 || sides[[2]int{next, i}] != 0 {
			return false
		}
	}
	for pair, times := range sides {
		isEdge := pair[1] == (pair[0]+1)%n
		if !isEdge && sides[[2]int{pair[1], pair[0]}] != times {
			return false
		}
	}
	return true
}
