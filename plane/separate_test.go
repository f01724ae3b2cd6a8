package plane_test

import (
	"math"
	"math/big"
	"math/rand"
	"slices"
	"testing"

	"silverside/api"
	"silverside/plane"
)

// P1.4, and P1.5 as far as it speaks of verdicts.

// isRight follows the definition of a right verdict word by word, with numbers of any size.
func isRight(a, b []api.Point, v api.Apart) bool {
	if v.Meet {
		return v.U == 0 && v.V == 0 && v.W == 0 && v.D >= 1 && v.D <= 1<<30 &&
			v.X >= -1<<42 && v.X <= 1<<42 && v.Y >= -1<<42 && v.Y <= 1<<42 && inHull(a, v) && inHull(b, v)
	}
	if v.X != 0 || v.Y != 0 || v.D != 0 || v.U < -1<<30 || v.U > 1<<30 || v.V < -1<<30 || v.V > 1<<30 || v.W < -1<<60 || v.W > 1<<60 {
		return false
	}
	for _, p := range a {
		if v.U*p.X+v.V*p.Y >= v.W {
			return false
		}
	}
	for _, p := range b {
		if v.U*p.X+v.V*p.Y <= v.W {
			return false
		}
	}
	return true
}

// inHull looks for a point, segment or triangle of the set that contains X/D, Y/D: the hull is all of these.
func inHull(l []api.Point, v api.Apart) bool {
	for _, a := range l {
		for _, b := range l {
			if onSegment(a, b, v) {
				return true
			}
			for _, c := range l {
				if cross(a, b, c) > 0 && leftOf(a, b, v) >= 0 && leftOf(b, c, v) >= 0 && leftOf(c, a, v) >= 0 {
					return true
				}
			}
		}
	}
	return false
}

func leftOf(a, b api.Point, v api.Apart) int {
	scaled := func(by, n, minus int) *big.Int {
		x := new(big.Int).Mul(big.NewInt(int64(minus)), big.NewInt(int64(v.D)))
		x.Sub(big.NewInt(int64(n)), x)
		return x.Mul(x, big.NewInt(int64(by)))
	}
	return scaled(b.X-a.X, v.Y, a.Y).Cmp(scaled(b.Y-a.Y, v.X, a.X))
}

func onSegment(a, b api.Point, v api.Apart) bool {
	return leftOf(a, b, v) == 0 && v.X >= min(a.X, b.X)*v.D && v.X <= max(a.X, b.X)*v.D &&
		v.Y >= min(a.Y, b.Y)*v.D && v.Y <= max(a.Y, b.Y)*v.D
}

func TestSeparate(t *testing.T) {
	triangle := points(0, 0, 9, 0, 0, 9)
	cases := []struct {
		name string
		a, b []api.Point
		meet bool
	}{
		{"example", points(0, 0, 2, 0), points(1, 1, 1, 2), false},
		{"example that meets", points(0, 0, 2, 2), points(0, 2, 2, 0), true},
		{"equal points", points(3, 4), points(3, 4), true},
		{"different points", points(3, 4), points(4, 4), false},
		{"farthest points", points(-4096, -4096), points(4096, 4096), false},
		{"point on a segment", points(1, 1), points(0, 0, 3, 3), true},
		{"point at the end of a segment", points(3, 3), points(0, 0, 3, 3), true},
		{"point beyond a segment", points(4, 4), points(0, 0, 3, 3), false},
		{"point before a segment", points(-1, 0), points(0, 0, 3, 0), false},
		{"point beside a segment", points(1, 2), points(0, 0, 3, 3), false},
		{"segments on one line, apart", points(0, 0, 1, 2), points(2, 4, 3, 6), false},
		{"segments on one line that touch", points(0, 0, 1, 2), points(1, 2, 3, 6), true},
		{"segments on one line that overlap", points(0, 0, 2, 0), points(3, 0, 1, 0), true},
		{"parallel segments", points(0, 0, 4, 1), points(0, 1, 4, 2), false},
		{"segments of which one ends on the other", points(0, 0, 4, 0), points(2, 0, 3, 5), true},
		{"segments that would cross", points(0, 0, 4, 0), points(2, 1, 3, 5), false},
		{"segments that cross between numbers", points(0, 0, 5, 3), points(0, 2, 4, 1), true},
		{"long segments close to each other", points(-4096, -4096, 4096, 4095), points(-4096, -4095, 4095, 4096), false},
		{"long segments that cross flatly", points(-4096, -4096, 4096, 4096), points(-4095, -4096, 4095, 4096), true},
		{"one within the other", triangle, points(2, 2, 3, 2, 2, 3), true},
		{"the other within the one", points(2, 2, 3, 2, 2, 3), triangle, true},
		{"a point within", triangle, points(1, 1), true},
		{"a point without", triangle, points(5, 5), false},
		{"corners that touch", triangle, points(9, 0, 12, 0, 12, 3), true},
		{"a corner on an edge", triangle, points(4, 5, 9, 9, 5, 9), true},
		{"a corner close to an edge", triangle, points(5, 5, 9, 9, 5, 9), false},
		{"edges that touch", triangle, points(0, 0, 3, 0, 2, -2), true},
		{"edges that overlap in part", triangle, points(-3, 0, 3, 0, 2, -2), true},
		{"edges close to each other", triangle, points(0, -1, 3, -1, 2, -2), false},
		{"triangles that cross, no corner within", points(0, 0, 6, 0, 3, 6), points(0, 4, 6, 4, 3, -2), true},
		{"the same set", triangle, triangle, true},
		{"many points", circle(512), slices.Repeat(points(4096, 4096), 512), false},
		{"many points that meet", circle(512), spiral(), true},
	}
	for _, c := range cases {
		compareSeparate(t, c.name, c.a, c.b, c.meet)
		compareSeparate(t, c.name+", exchanged", c.b, c.a, c.meet)
	}
}

func compareSeparate(t *testing.T, name string, a, b []api.Point, meet bool) {
	t.Helper()
	v, e := plane.Separate(a, b)
	if e != api.OK || v.Meet != meet {
		t.Errorf("%s: Separate of %v, %v = %v, %d", name, a, b, v, e)
	}
	if e := plane.Check(a, b, v); e != api.OK {
		t.Errorf("%s: Check of %v, %v, %v = %d", name, a, b, v, e)
	}
	if len(a)+len(b) < 100 && !isRight(a, b, v) {
		t.Errorf("%s: Separate of %v, %v = %v, which is not right", name, a, b, v)
	}
}

// TestSeparateOnGrid takes sets whose hulls often touch, and all pairs of segments, points among them, of a small grid.
func TestSeparateOnGrid(t *testing.T) {
	onGrid(4, 3, func(l []api.Point) { separateRight(t, l[:2], l[2:]) })
	r := rand.New(rand.NewSource(2))
	for i := range 20000 {
		most := 1 + i%5
		a, b := random(r, 1+r.Intn(5), most), random(r, 1+r.Intn(5), most)
		separateRight(t, a, moved(b, random(r, 1, most)[0]))
	}
	for range 2000 {
		separateRight(t, random(r, 1+r.Intn(4), 4096), random(r, 1+r.Intn(4), 4096))
	}
}

func separateRight(t *testing.T, a, b []api.Point) {
	t.Helper()
	v, e := plane.Separate(a, b)
	if e != api.OK || !isRight(a, b, v) {
		t.Fatalf("Separate of %v, %v = %v, %d", a, b, v, e)
	}
	if e := plane.Check(a, b, v); e != api.OK {
		t.Fatalf("Check of %v, %v, %v = %d", a, b, v, e)
	}
}

func TestSeparateManyPoints(t *testing.T) {
	r := rand.New(rand.NewSource(4))
	for range 30 {
		a, b := random(r, 512, 1000), random(r, 512, 1000)
		v, e := plane.Separate(a, b)
		if e != api.OK || !v.Meet || plane.Check(a, b, v) != api.OK {
			t.Errorf("Separate = %v, %d", v, e)
		}
		far := moved(b, api.Point{X: 2001, Y: 17})
		v, e = plane.Separate(a, far)
		if e != api.OK || v.Meet || !isRight(a, far, v) || plane.Check(a, far, v) != api.OK {
			t.Errorf("Separate = %v, %d", v, e)
		}
	}
}

// checkCase says what Check returns about a verdict.
type checkCase struct {
	name string
	a, b []api.Point
	v    api.Apart
	want api.Errno
}

func runChecks(t *testing.T, cases []checkCase) {
	t.Helper()
	for _, c := range cases {
		if e := plane.Check(c.a, c.b, c.v); e != c.want {
			t.Errorf("%s: Check = %d", c.name, e)
		}
	}
}

func TestCheckOfLines(t *testing.T) {
	a, b := points(0, 0, 2, 0), points(1, 1, 1, 2)
	c, d := points(0, 0, 2, 2), points(0, 2, 2, 0)
	zero, one, far := points(0, 0), points(1, 0), points(4096, -4096)
	runChecks(t, []checkCase{
		{"example", a, b, api.Apart{V: 2, W: 1}, api.OK},
		{"the line touches the first set", a, b, api.Apart{V: 2, W: 0}, api.ErrAnswer},
		{"the line touches the second set", a, b, api.Apart{V: 2, W: 2}, api.ErrAnswer},
		{"the line is beyond", a, b, api.Apart{V: 2, W: 3}, api.ErrAnswer},
		{"the sets are exchanged", b, a, api.Apart{V: 2, W: 1}, api.ErrAnswer},
		{"exchanged, and the line too", b, a, api.Apart{V: -2, W: -1}, api.OK},
		{"no direction", a, b, api.Apart{}, api.ErrAnswer},
		{"no direction, but a number", a, b, api.Apart{W: 1}, api.ErrAnswer},
		{"only X", a, b, api.Apart{X: 1, V: 2, W: 1}, api.ErrAnswer},
		{"only Y", a, b, api.Apart{Y: 1, V: 2, W: 1}, api.ErrAnswer},
		{"only D", a, b, api.Apart{D: 1, V: 2, W: 1}, api.ErrAnswer},
		{"one point of the first set beyond", points(0, 0, 2, 0, 1, 1), points(1, 2), api.Apart{V: 2, W: 1}, api.ErrAnswer},
		{"one point of the second set before", a, points(1, 1, 1, -1), api.Apart{V: 2, W: 1}, api.ErrAnswer},
		{"the greatest U", zero, one, api.Apart{U: 1 << 30, W: 1}, api.OK},
		{"U too great", zero, one, api.Apart{U: 1<<30 + 1, W: 1}, api.ErrAnswer},
		{"the least U", one, zero, api.Apart{U: -1 << 30, W: -1}, api.OK},
		{"U too small", one, zero, api.Apart{U: -1<<30 - 1, W: -1}, api.ErrAnswer},
		{"the greatest V", zero, points(0, 1), api.Apart{V: 1 << 30, W: 1}, api.OK},
		{"V too great", zero, points(0, 1), api.Apart{V: 1<<30 + 1, W: 1}, api.ErrAnswer},
		{"the least V", points(0, 1), zero, api.Apart{V: -1 << 30, W: -1}, api.OK},
		{"V too small", points(0, 1), zero, api.Apart{V: -1<<30 - 1, W: -1}, api.ErrAnswer},
		{"a great W", zero, far, api.Apart{U: 1 << 30, V: -1 << 30, W: 1<<43 - 1}, api.OK},
		{"a W that is reached", zero, far, api.Apart{U: 1 << 30, V: -1 << 30, W: 1 << 43}, api.ErrAnswer},
		{"U would wrap around", zero, one, api.Apart{U: math.MaxInt, W: 1}, api.ErrAnswer},
		{"all wrap around", zero, far, api.Apart{U: math.MinInt, V: math.MinInt, W: math.MinInt}, api.ErrAnswer},
		{"a line between what meets", c, d, api.Apart{U: 1, W: 1}, api.ErrAnswer},
	})
}

func TestCheckOfSharedPoints(t *testing.T) {
	a, b := points(0, 0, 2, 0), points(1, 1, 1, 2)
	c, d := points(0, 0, 2, 2), points(0, 2, 2, 0)
	zero, one, far := points(0, 0), points(1, 0), points(4096, -4096)
	square, inner := points(0, 0, 4, 0, 4, 4, 0, 4), points(1, 1, 2, 1, 1, 2)
	runChecks(t, []checkCase{
		{"meeting", c, d, api.Apart{Meet: true, X: 1, Y: 1, D: 1}, api.OK},
		{"meeting, multiplied", c, d, api.Apart{Meet: true, X: 7, Y: 7, D: 7}, api.OK},
		{"the greatest D", c, d, api.Apart{Meet: true, X: 1 << 30, Y: 1 << 30, D: 1 << 30}, api.OK},
		{"D too great", c, d, api.Apart{Meet: true, X: 1<<30 + 1, Y: 1<<30 + 1, D: 1<<30 + 1}, api.ErrAnswer},
		{"no D", c, d, api.Apart{Meet: true, X: 1, Y: 1}, api.ErrAnswer},
		{"nothing", c, d, api.Apart{Meet: true}, api.ErrAnswer},
		{"a negative D", c, d, api.Apart{Meet: true, X: -1, Y: -1, D: -1}, api.ErrAnswer},
		{"in neither hull", c, d, api.Apart{Meet: true, X: 1, Y: 2, D: 1}, api.ErrAnswer},
		{"in the first hull only", c, d, api.Apart{Meet: true, X: 2, Y: 2, D: 1}, api.ErrAnswer},
		{"in the second hull only", c, d, api.Apart{Meet: true, X: 0, Y: 2, D: 1}, api.ErrAnswer},
		{"on the lines, beyond the hulls", points(0, 0, 1, 1), points(3, 0, 5, 0), api.Apart{Meet: true, X: 0, Y: 0, D: 1}, api.ErrAnswer},
		{"meeting, with U", c, d, api.Apart{Meet: true, X: 1, Y: 1, D: 1, U: 1}, api.ErrAnswer},
		{"meeting, with V", c, d, api.Apart{Meet: true, X: 1, Y: 1, D: 1, V: 1}, api.ErrAnswer},
		{"meeting, with W", c, d, api.Apart{Meet: true, X: 1, Y: 1, D: 1, W: 1}, api.ErrAnswer},
		{"a point of what is apart", a, b, api.Apart{Meet: true, X: 1, Y: 0, D: 1}, api.ErrAnswer},
		{"within", square, inner, api.Apart{Meet: true, X: 5, Y: 5, D: 4}, api.OK},
		{"on the edge within", square, inner, api.Apart{Meet: true, X: 3, Y: 3, D: 2}, api.OK},
		{"just beyond the inner edge", square, inner, api.Apart{Meet: true, X: 3000001, Y: 3000000, D: 2000000}, api.ErrAnswer},
		{"in the outer hull only", square, inner, api.Apart{Meet: true, X: 3, Y: 3, D: 1}, api.ErrAnswer},
		{"a point that is met", one, one, api.Apart{Meet: true, X: 5, Y: 0, D: 5}, api.OK},
		{"a point that is missed", one, one, api.Apart{Meet: true, X: 5, Y: 1, D: 5}, api.ErrAnswer},
		{"the farthest point", far, far, api.Apart{Meet: true, X: 1 << 42, Y: -1 << 42, D: 1 << 30}, api.OK},
		{"X too great", far, far, api.Apart{Meet: true, X: 1<<42 + 1, Y: -1 << 42, D: 1 << 30}, api.ErrAnswer},
		{"coordinates would wrap around", zero, zero, api.Apart{Meet: true, X: math.MinInt, Y: math.MinInt, D: 1}, api.ErrAnswer},
		{"all would wrap around", square, square, api.Apart{Meet: true, X: math.MinInt, Y: math.MaxInt, D: math.MaxInt}, api.ErrAnswer},
	})
}

// TestCheckComparesAll compares Check with the definition for many verdicts, most of which are wrong, and looks for two kinds of right ones.
func TestCheckComparesAll(t *testing.T) {
	r := rand.New(rand.NewSource(6))
	for range 1500 {
		a, b := random(r, 1+r.Intn(4), 2), random(r, 1+r.Intn(4), 2)
		b = moved(b, random(r, 1, 2)[0])
		kinds := map[bool]bool{}
		for range 60 {
			v := randomVerdict(r)
			e := plane.Check(a, b, v)
			if (e == api.OK) != isRight(a, b, v) || e != api.OK && e != api.ErrAnswer {
				t.Fatalf("Check of %v, %v, %v = %d", a, b, v, e)
			}
			if e == api.OK {
				kinds[v.Meet] = true
			}
		}
		v, _ := plane.Separate(a, b)
		if len(kinds) == 2 || kinds[!v.Meet] {
			t.Errorf("right verdicts of both kinds about %v, %v", a, b)
		}
	}
}

func randomVerdict(r *rand.Rand) api.Apart {
	v := api.Apart{U: r.Intn(7) - 3, V: r.Intn(7) - 3, W: r.Intn(9) - 4}
	if r.Intn(2) == 0 {
		v = api.Apart{Meet: true, D: 1 + r.Intn(3)}
		v.X, v.Y = r.Intn(4*v.D+1)-2*v.D, r.Intn(4*v.D+1)-2*v.D
	}
	if r.Intn(20) == 0 {
		numbers := []*int{&v.X, &v.Y, &v.D, &v.U, &v.V, &v.W}
		*numbers[r.Intn(6)] = []int{1, -1, 1 << 31, -1 << 31, 1 << 43, 1 << 61, math.MaxInt, math.MinInt}[r.Intn(8)]
	}
	return v
}

func TestSeparateInvalidSets(t *testing.T) {
	good := points(0, 0, 1, 0)
	for _, l := range notSets() {
		for _, pair := range [][2][]api.Point{{l, good}, {good, l}, {l, l}} {
			if v, e := plane.Separate(pair[0], pair[1]); v != (api.Apart{}) || e != api.ErrArg {
				t.Errorf("Separate of %d and %d points = %v, %d", len(pair[0]), len(pair[1]), v, e)
			}
			for _, v := range []api.Apart{{}, {Meet: true, D: 1}, {V: 2, W: 1}} {
				if e := plane.Check(pair[0], pair[1], v); e != api.ErrArg {
					t.Errorf("Check of %d and %d points = %d", len(pair[0]), len(pair[1]), e)
				}
			}
		}
	}
}
