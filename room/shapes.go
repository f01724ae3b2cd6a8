package room

import (
	"silverside/api"
	"silverside/carve"
	"silverside/plane"
)

func (r *Room) addOutline(a *arguments) string {
	points := []api.Point{a.point(), a.point(), a.point()}
	for a.hasMore() {
		points = append(points, a.point())
	}
	if !plane.Simple(points) {
		panic(api.ErrArg)
	}
	if len(r.outlines) >= api.MaxOutlines {
		panic(api.ErrFull)
	}
	area := must(plane.Area(points))
	r.outlines = append(r.outlines, points)
	return phrase("outline", len(r.outlines)-1, max(area, -area))
}

func (r *Room) touch(a *arguments) string {
	k, p := a.number(), a.point()
	a.end()
	polygon := must(r.outline(k))
	return phrase("touch", must(plane.Inside(polygon, p)))
}

func (r *Room) separate(a *arguments) string {
	k, l := a.number(), a.number()
	a.end()
	first, second := must(r.outline(k)), must(r.outline(l))
	verdict := must(plane.Separate(first, second))
	return phrase("apart", digit(!verdict.Meet))
}

func (r *Room) carve(a *arguments) string {
	width, height := a.number(), a.number()
	var blanks []api.Blank
	for a.hasMore() {
		n := a.group(3)
		blanks = append(blanks, api.Blank{W: n[0], H: n[1], Value: n[2]})
	}
	return phrase("carve", r.bookBest(width, height, blanks))
}

// bookBest books the best plan, and returns its worth.
func (r *Room) bookBest(width, height int, blanks []api.Blank) int {
	_, bound, e := carve.Best(width, height, blanks)
	demand(e)
	worth := bound[width][height]
	r.book(worth)
	return worth
}
