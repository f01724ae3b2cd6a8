package plane_test

import (
	"math"
	"math/big"
	"math/rand"
	"slices"
	"testing"

	"silverside/api"
	"silverside/plane"
)

// P1.3, and P1.5 as far as it speaks of polygons.

func TestSimple(t *testing.T) {
	cases := []struct {
		name string
		l    []api.Point
		want bool
	}{
		{"example", points(0, 0, 4, 0, 4, 4, 2, 1), true},
		{"clockwise", points(2, 1, 4, 4, 4, 0, 0, 0), true},
		{"triangle", points(0, 0, 1, 0, 0, 1), true},
		{"flat corner", points(0, 0, 1, 0, 2, 0, 0, 2), true},
		{"flat corner at the seam", points(1, 0, 2, 0, 0, 2, 0, 0), true},
		{"two points", points(0, 0, 1, 0), false},
		{"on one line", points(0, 0, 2, 0, 1, 0), false},
		{"on one line, long", points(0, 0, 1, 0, 3, 0, 2, 0), false},
		{"equal points that follow one another", points(0, 0, 0, 0, 1, 0, 0, 1), false},
		{"first and last point equal", points(0, 0, 1, 0, 0, 1, 0, 0), false},
		{"all points equal", points(1, 1, 1, 1, 1, 1), false},
		{"edges cross", points(0, 0, 2, 2, 2, 0, 0, 2), false},
		{"corner on an edge", points(0, 0, 4, 0, 4, 4, 2, 0), false},
		{"corner on a corner", points(0, 0, 2, 2, 4, 0, 4, 4, 2, 2, 0, 4), false},
		{"folds back", points(0, 0, 4, 0, 2, 0, 2, 2), false},
		{"folds back at the seam", points(2, 0, 2, 2, 0, 0, 4, 0), false},
		{"folds back to its corner", points(0, 0, 4, 0, 4, 4, 4, 0), false},
		{"edges on one line", points(0, 0, 5, 0, 5, 1, 4, 1, 4, 0, 1, 0, 1, 1, 0, 1), false},
		{"edges on one line, apart", points(0, 0, 1, 0, 1, 1, 4, 1, 4, 0, 5, 0, 5, 2, 0, 2), true},
		{"widest", points(-4096, -4096, 4096, -4096, 4096, 4096, -4096, 4096), true},
		{"512 points", flat(512), true},
		{"513 points", flat(513), false},
	}
	for _, c := range cases {
		if plane.Simple(c.l) != c.want {
			t.Errorf("%s: Simple of %v is not %t", c.name, c.l, c.want)
		}
	}
	for _, far := range invalidPoints() {
		if l := append(points(0, 0, 1, 0), far); plane.Simple(l) {
			t.Errorf("Simple of %v", l)
		}
	}
	for _, l := range notSets() {
		if plane.Simple(l) {
			t.Errorf("Simple of %d points", len(l))
		}
	}
}

// TestSimpleOnGrid compares with the definition, for all polygons with few points of a small grid.
func TestSimpleOnGrid(t *testing.T) {
	for n := 3; n <= 5; n++ {
		onGrid(n, 3, func(l []api.Point) { compareSimple(t, l) })
	}
	r := rand.New(rand.NewSource(21))
	for range 5000 {
		compareSimple(t, random(r, 6+r.Intn(3), 2))
	}
}

func compareSimple(t *testing.T, l []api.Point) {
	t.Helper()
	if plane.Simple(l) != isSimple(l) {
		t.Errorf("Simple of %v is not %t", l, isSimple(l))
	}
}

func isSimple(l []api.Point) bool {
	n := len(l)
	for i, a := range l {
		b := l[(i+1)%n]
		if a == b {
			return false
		}
		for j, c := range l {
			d := l[(j+1)%n]
			switch {
			case i == j:
			case j == (i+1)%n:
				if between(a, b, d) || between(c, d, a) { // more in common than the point b
					return false
				}
			case i == (j+1)%n:
			case haveCommon(a, b, c, d):
				return false
			}
		}
	}
	return true
}

// haveCommon solves for the point of two segments that are not parallel; parallel ones have an end in common with the other one.
func haveCommon(a, b, c, d api.Point) bool {
	if between(a, b, c) || between(a, b, d) || between(c, d, a) || between(c, d, b) {
		return true
	}
	wide := (b.X-a.X)*(d.Y-c.Y) - (b.Y-a.Y)*(d.X-c.X)
	if wide == 0 {
		return false
	}
	s := big.NewRat(int64((c.X-a.X)*(d.Y-c.Y)-(c.Y-a.Y)*(d.X-c.X)), int64(wide))
	u := big.NewRat(int64((c.X-a.X)*(b.Y-a.Y)-(c.Y-a.Y)*(b.X-a.X)), int64(wide))
	zero, one := big.NewRat(0, 1), big.NewRat(1, 1)
	return s.Cmp(zero) >= 0 && s.Cmp(one) <= 0 && u.Cmp(zero) >= 0 && u.Cmp(one) <= 0
}

func TestInside(t *testing.T) {
	example := points(0, 0, 4, 0, 4, 4, 2, 1)
	teeth := points(0, 0, 6, 0, 6, 4, 4, 2, 3, 4, 2, 2, 0, 4)
	cases := []struct {
		l    []api.Point
		p    api.Point
		want int
	}{
		{example, api.Point{X: 2, Y: 1}, 0},
		{example, api.Point{X: 2, Y: 2}, -1},
		{example, api.Point{X: 3, Y: 1}, 1},
		{example, api.Point{X: 0, Y: 0}, 0},
		{example, api.Point{X: 3, Y: 0}, 0},
		{example, api.Point{X: 4, Y: 2}, 0},
		{example, api.Point{X: 5, Y: 0}, -1},
		{example, api.Point{X: -1, Y: 0}, -1},
		{example, api.Point{X: -1, Y: 1}, -1},
		{example, api.Point{X: 4096, Y: 4096}, -1},
		{teeth, api.Point{X: 1, Y: 2}, 1},
		{teeth, api.Point{X: 3, Y: 2}, 1},
		{teeth, api.Point{X: 5, Y: 2}, 1},
		{teeth, api.Point{X: 2, Y: 2}, 0},
		{teeth, api.Point{X: 2, Y: 3}, -1},
		{teeth, api.Point{X: 1, Y: 4}, -1},
		{teeth, api.Point{X: -1, Y: 4}, -1},
		{teeth, api.Point{X: -1, Y: 2}, -1},
	}
	for _, c := range cases {
		back := slices.Clone(c.l)
		slices.Reverse(back)
		for _, l := range [][]api.Point{c.l, back} {
			if n, e := plane.Inside(l, c.p); n != c.want || e != api.OK {
				t.Errorf("Inside of %v, %v = %d, %d", l, c.p, n, e)
			}
		}
	}
}

// TestInsideByAngles compares with the sum of the angles under which a point sees the edges.
func TestInsideByAngles(t *testing.T) {
	for k, l := range samplePolygons(t) {
		if len(l) > 9 || k%5 != 0 {
			continue
		}
		for x := -2; x <= 4; x++ {
			for y := -2; y <= 4; y++ {
				p := api.Point{X: x, Y: y}
				if n, e := plane.Inside(l, p); n != seen(l, p) || e != api.OK {
					t.Errorf("Inside of %v, %v = %d, %d", l, p, n, e)
				}
			}
		}
	}
}

func seen(l []api.Point, p api.Point) int {
	angle := 0.0
	for i, a := range l {
		b := l[(i+1)%len(l)]
		if between(a, b, p) {
			return 0
		}
		inner := (a.X-p.X)*(b.X-p.X) + (a.Y-p.Y)*(b.Y-p.Y)
		angle += math.Atan2(float64(cross(p, a, b)), float64(inner))
	}
	if math.Abs(angle) > math.Pi {
		return 1
	}
	return -1
}

func TestTriangulate(t *testing.T) {
	for _, l := range samplePolygons(t) {
		triangles, e := plane.Triangulate(l)
		if e != api.OK || !isTriangulation(l, triangles) {
			t.Fatalf("Triangulate of %v = %v, %d", l, triangles, e)
		}
		if e := plane.Covers(l, triangles); e != api.OK {
			t.Errorf("Covers of %v, %v = %d", l, triangles, e)
		}
		whole, _ := plane.Area(l)
		for _, c := range triangles {
			area, _ := plane.Area([]api.Point{l[c[0]], l[c[1]], l[c[2]]})
			whole -= area
		}
		if whole != 0 {
			t.Errorf("the triangles %v of %v lack %d", triangles, l, whole)
		}
	}
}

// isTriangulation follows the definition word by word.
func isTriangulation(l []api.Point, triangles [][3]int) bool {
	n := len(l)
	if len(triangles) != n-2 {
		return false
	}
	area, _ := plane.Area(l)
	sides := make([][]int, n)
	for i := range sides {
		sides[i] = make([]int, n)
	}
	for _, c := range triangles {
		for _, i := range c {
			if i < 0 || i >= n {
				return false
			}
		}
		if sign(cross(l[c[0]], l[c[1]], l[c[2]])) != sign(area) {
			return false
		}
		sides[c[0]][c[1]]++
		sides[c[1]][c[2]]++
		sides[c[2]][c[0]]++
	}
	for i := range n {
		for j := range n {
			switch {
			case j == (i+1)%n:
				if sides[i][j] != 1 || sides[j][i] != 0 {
					return false
				}
			case i == (j+1)%n:
			case sides[i][j] != sides[j][i]:
				return false
			}
		}
	}
	return true
}

func TestCovers(t *testing.T) {
	example := points(0, 0, 4, 0, 4, 4, 2, 1)
	square := points(0, 0, 2, 0, 2, 2, 0, 2)
	clockwise := points(0, 2, 2, 2, 2, 0, 0, 0)
	pentagon := points(0, 0, 4, 0, 6, 3, 2, 6, -2, 3)
	cases := []struct {
		name string
		l    []api.Point
		c    [][3]int
		want api.Errno
	}{
		{"example", example, [][3]int{{0, 1, 3}, {1, 2, 3}}, api.OK},
		{"other order", example, [][3]int{{2, 3, 1}, {3, 0, 1}}, api.OK},
		{"a triangle outside", example, [][3]int{{0, 1, 2}, {0, 2, 3}}, api.ErrAnswer},
		{"none", example, nil, api.ErrAnswer},
		{"too few", example, [][3]int{{0, 1, 3}}, api.ErrAnswer},
		{"too many", example, [][3]int{{0, 1, 3}, {1, 2, 3}, {1, 2, 3}}, api.ErrAnswer},
		{"far too many", example, make([][3]int, 1000000), api.ErrAnswer},
		{"one twice", example, [][3]int{{0, 1, 3}, {0, 1, 3}}, api.ErrAnswer},
		{"wrong turn", example, [][3]int{{0, 1, 3}, {1, 3, 2}}, api.ErrAnswer},
		{"all turned", example, [][3]int{{0, 3, 1}, {1, 3, 2}}, api.ErrAnswer},
		{"a point twice", example, [][3]int{{0, 1, 3}, {1, 1, 3}}, api.ErrAnswer},
		{"a negative position", example, [][3]int{{0, 1, 3}, {1, 2, -1}}, api.ErrAnswer},
		{"a position too far", example, [][3]int{{0, 1, 3}, {1, 2, 4}}, api.ErrAnswer},
		{"the least position", example, [][3]int{{math.MinInt, 1, 3}, {1, 2, 3}}, api.ErrAnswer},
		{"the greatest position", example, [][3]int{{0, math.MaxInt, 3}, {1, 2, 3}}, api.ErrAnswer},
		{"square", square, [][3]int{{0, 1, 2}, {0, 2, 3}}, api.OK},
		{"overlapping", square, [][3]int{{0, 1, 2}, {0, 1, 3}}, api.ErrAnswer},
		{"clockwise", clockwise, [][3]int{{0, 1, 2}, {0, 2, 3}}, api.OK},
		{"clockwise, wrong turns", clockwise, [][3]int{{0, 2, 1}, {0, 3, 2}}, api.ErrAnswer},
		{"triangle", points(0, 0, 1, 0, 0, 1), [][3]int{{1, 2, 0}}, api.OK},
		{"triangle, nothing", points(0, 0, 1, 0, 0, 1), [][3]int{}, api.ErrAnswer},
		{"flat triangle", points(0, 0, 1, 0, 2, 0, 0, 2), [][3]int{{0, 1, 2}, {0, 2, 3}}, api.ErrAnswer},
		{"flat corner", points(0, 0, 1, 0, 2, 0, 0, 2), [][3]int{{0, 1, 3}, {1, 2, 3}}, api.OK},
		{"pentagon", pentagon, [][3]int{{0, 1, 2}, {0, 2, 3}, {0, 3, 4}}, api.OK},
		{"pentagon, crossing", pentagon, [][3]int{{0, 1, 2}, {0, 2, 3}, {1, 3, 4}}, api.ErrAnswer},
		{"not simple", points(0, 0, 2, 2, 2, 0, 0, 2), [][3]int{{0, 1, 2}, {0, 2, 3}}, api.ErrArg},
		{"not simple, and no triangulation", points(0, 0, 2, 0, 1, 0), nil, api.ErrArg},
	}
	for _, c := range cases {
		if e := plane.Covers(c.l, c.c); e != c.want {
			t.Errorf("%s: Covers = %d", c.name, e)
		}
	}
}

// TestCoversComparesAll compares with the definition for all pairs of triples of some polygons with four points, and for many lists with five.
func TestCoversComparesAll(t *testing.T) {
	triples := [][3]int{}
	for i := range 5 * 5 * 5 {
		triples = append(triples, [3]int{i / 25, i / 5 % 5, i % 5})
	}
	four := [][]api.Point{points(0, 0, 4, 0, 4, 4, 2, 1), points(0, 0, 2, 0, 2, 2, 0, 2), points(0, 0, 0, 2, 2, 0, 1, 0)}
	for _, l := range four {
		for _, a := range triples {
			for _, b := range triples {
				compareCovers(t, l, [][3]int{a, b})
			}
		}
	}
	for _, l := range [][]api.Point{points(0, 0, 4, 0, 6, 3, 2, 6, -2, 3), points(0, 0, 1, 4, 2, 1, 3, 1, 3, 0)} {
		turning := slices.DeleteFunc(slices.Clone(triples), func(c [3]int) bool {
			return cross(l[c[0]], l[c[1]], l[c[2]]) == 0
		})
		for i, a := range turning {
			for _, b := range turning[i:] {
				for k := i % 3; k < len(turning); k += 3 {
					compareCovers(t, l, [][3]int{turning[k], a, b})
				}
			}
		}
	}
}

func compareCovers(t *testing.T, l []api.Point, triangles [][3]int) {
	t.Helper()
	if e := plane.Covers(l, triangles); (e == api.OK) != isTriangulation(l, triangles) || e != api.OK && e != api.ErrAnswer {
		t.Errorf("Covers of %v, %v = %d", l, triangles, e)
	}
}

// TestCoversRefusesChanges changes right triangulations of larger polygons in one place.
func TestCoversRefusesChanges(t *testing.T) {
	r := rand.New(rand.NewSource(8))
	for _, l := range [][]api.Point{spiral(), comb(), circle(100), flat(40)} {
		triangles, _ := plane.Triangulate(l)
		for range 100 {
			changed := slices.Clone(triangles)
			changed[r.Intn(len(changed))][r.Intn(3)] = r.Intn(len(l)+2) - 1
			compareCovers(t, l, changed)
		}
	}
}

func TestPolygonsThatAreNone(t *testing.T) {
	lists := append(notSets(), points(0, 0, 2, 2, 2, 0, 0, 2), points(0, 0, 2, 0, 1, 0), points(0, 0, 1, 0), points(0, 0, 4, 0, 4, 4, 2, 0))
	for _, l := range lists {
		if n, e := plane.Inside(l, api.Point{}); n != 0 || e != api.ErrArg {
			t.Errorf("Inside of %d points = %d, %d", len(l), n, e)
		}
		if c, e := plane.Triangulate(l); len(c) != 0 || e != api.ErrArg {
			t.Errorf("Triangulate of %d points = %v, %d", len(l), c, e)
		}
		if e := plane.Covers(l, [][3]int{{0, 1, 2}}); e != api.ErrArg {
			t.Errorf("Covers of %d points = %d", len(l), e)
		}
	}
	for _, far := range invalidPoints() {
		if n, e := plane.Inside(points(0, 0, 1, 0, 0, 1), far); n != 0 || e != api.ErrArg {
			t.Errorf("Inside of %v = %d, %d", far, n, e)
		}
	}
}
