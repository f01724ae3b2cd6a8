package plane_test

import (
	"math/rand"
	"slices"
	"testing"

	"silverside/api"
	"silverside/plane"
)

// P1.2, and P1.5 as far as it speaks of sets.

func TestHull(t *testing.T) {
	cases := []struct{ l, want []api.Point }{
		{points(0, 0, 2, 0, 1, 1, 2, 2, 0, 2, 1, 0), points(0, 0, 2, 0, 2, 2, 0, 2)},
		{points(3, 4), points(3, 4)},
		{points(3, 4, 3, 4, 3, 4), points(3, 4)},
		{points(3, 3, 1, 1, 2, 2, 1, 1), points(1, 1, 3, 3)},
		{points(5, 2, 5, 9, 5, 2, 5, 4), points(5, 2, 5, 9)},
		{points(2, 2, 1, 3, 3, 1), points(1, 3, 3, 1)},
		{points(7, 0, -4, 0), points(-4, 0, 7, 0)},
		{points(0, 1, 1, 0, 0, 0), points(0, 0, 1, 0, 0, 1)},
		{points(0, 2, 0, 1, 0, 0, 1, 1), points(0, 0, 1, 1, 0, 2)},
		{points(-4096, 4096, 4096, 4096, 4096, -4096, -4096, -4096, 0, 0), points(-4096, -4096, 4096, -4096, 4096, 4096, -4096, 4096)},
		{manyPoints(512), points(0, 7, 511, 7)},
		{slices.Repeat(points(1, 2), 512), points(1, 2)},
	}
	for _, c := range cases {
		if l, e := plane.Hull(c.l); !slices.Equal(l, c.want) || e != api.OK {
			t.Errorf("Hull of %v = %v, %d", c.l, l, e)
		}
	}
}

// TestHullIsItsCorners compares the corners with their definition: the points that are in no segment or triangle of other points.
func TestHullIsItsCorners(t *testing.T) {
	for _, l := range sampleSets() {
		if len(l) > 30 {
			continue
		}
		got, e := plane.Hull(l)
		want := []api.Point{}
		for _, p := range l {
			if isCorner(l, p) && !slices.Contains(want, p) {
				want = append(want, p)
			}
		}
		if len(got) != len(want) || e != api.OK {
			t.Fatalf("Hull of %v = %v, %d", l, got, e)
		}
		for _, p := range want {
			if !slices.Contains(got, p) {
				t.Errorf("Hull of %v = %v", l, got)
			}
			if p.X < got[0].X || p.X == got[0].X && p.Y < got[0].Y {
				t.Errorf("Hull of %v begins with %v", l, got[0])
			}
		}
	}
}

func isCorner(l []api.Point, p api.Point) bool {
	for _, a := range l {
		for _, b := range l {
			if a == p || b == p {
				continue
			}
			if between(a, b, p) {
				return false
			}
			for _, c := range l {
				if c != p && cross(a, b, c) > 0 && cross(a, b, p) >= 0 && cross(b, c, p) >= 0 && cross(c, a, p) >= 0 {
					return false
				}
			}
		}
	}
	return true
}

func TestHullProperties(t *testing.T) {
	r := rand.New(rand.NewSource(7))
	for _, l := range sampleSets() {
		hull, _ := plane.Hull(l)
		n := len(hull)
		for i, a := range hull {
			b, c := hull[(i+1)%n], hull[(i+2)%n]
			if n > 2 && cross(a, b, c) <= 0 {
				t.Errorf("the hull %v does not turn left at %v", hull, b)
			}
			for _, p := range l {
				if n > 1 && cross(a, b, p) < 0 {
					t.Errorf("%v is to the right of an edge of %v", p, hull)
				}
			}
		}
		if again, e := plane.Hull(hull); !slices.Equal(again, hull) || e != api.OK {
			t.Errorf("the hull of %v is %v", hull, again)
		}
		mixed := slices.Clone(l)
		r.Shuffle(len(mixed), func(i, j int) { mixed[i], mixed[j] = mixed[j], mixed[i] })
		if other, _ := plane.Hull(mixed); !slices.Equal(other, hull) {
			t.Errorf("the hull of %v is %v, and that of %v is %v", l, hull, mixed, other)
		}
	}
}

func TestDistances(t *testing.T) {
	cases := []struct {
		l             []api.Point
		widest, least int
	}{
		{points(0, 0, 3, 4, 1, 1), 25, 2},
		{points(0, 0, 3, 4), 25, 25},
		{points(5, 5, 5, 5), 0, 0},
		{points(5, 5, 1, 1, 5, 5), 32, 0},
		{points(1, 0, 2, 0, 4, 0, 8, 0), 49, 1},
		{points(-4096, -4096, 4096, 4096), 2 * 8192 * 8192, 2 * 8192 * 8192},
		{manyPoints(512), 511 * 511, 1},
		{append(manyPoints(511), api.Point{X: 510, Y: 7}), 510 * 510, 0},
	}
	for _, c := range cases {
		if n, e := plane.Widest(c.l); n != c.widest || e != api.OK {
			t.Errorf("Widest of %v = %d, %d", c.l, n, e)
		}
		if n, e := plane.Nearest(c.l); n != c.least || e != api.OK {
			t.Errorf("Nearest of %v = %d, %d", c.l, n, e)
		}
	}
	if n, e := plane.Widest(points(6, 7)); n != 0 || e != api.OK {
		t.Errorf("Widest of one point = %d, %d", n, e)
	}
	if n, e := plane.Nearest(points(6, 7)); n != 0 || e != api.ErrArg {
		t.Errorf("Nearest of one point = %d, %d", n, e)
	}
}

func TestDistancesOfAllPairs(t *testing.T) {
	for _, l := range sampleSets() {
		if len(l) == 1 {
			continue
		}
		most, least := allDistances(l)
		if n, e := plane.Widest(l); n != most || e != api.OK {
			t.Errorf("Widest of %v = %d, %d", l, n, e)
		}
		if n, e := plane.Nearest(l); n != least || e != api.OK {
			t.Errorf("Nearest of %v = %d, %d", l, n, e)
		}
		hull, _ := plane.Hull(l)
		if n, _ := plane.Widest(hull); n != most {
			t.Errorf("the corners of %v do not reach %d", l, most)
		}
	}
}

func allDistances(l []api.Point) (most, least int) {
	least = 1 << 40
	for i, p := range l {
		for j, q := range l {
			if i != j {
				d := (p.X-q.X)*(p.X-q.X) + (p.Y-q.Y)*(p.Y-q.Y)
				most, least = max(most, d), min(least, d)
			}
		}
	}
	return most, least
}

func TestSetsThatAreNone(t *testing.T) {
	for _, l := range notSets() {
		if h, e := plane.Hull(l); len(h) != 0 || e != api.ErrArg {
			t.Errorf("Hull of %d points = %v, %d", len(l), h, e)
		}
		if n, e := plane.Widest(l); n != 0 || e != api.ErrArg {
			t.Errorf("Widest of %d points = %d, %d", len(l), n, e)
		}
		if n, e := plane.Nearest(l); n != 0 || e != api.ErrArg {
			t.Errorf("Nearest of %d points = %d, %d", len(l), n, e)
		}
	}
}
