package plane_test

import (
	"math/rand"
	"slices"
	"testing"

	"silverside/api"
	"silverside/plane"
)

// P1.1.

func TestTurn(t *testing.T) {
	cases := []struct {
		l    []api.Point
		want int
	}{
		{points(0, 0, 1, 0, 0, 1), 1},
		{points(0, 0, 0, 1, 1, 0), -1},
		{points(0, 0, 1, 1, 2, 2), 0},
		{points(0, 0, 2, 2, 1, 1), 0},
		{points(0, 0, 1, 1, -1, -1), 0},
		{points(3, 4, 3, 4, 3, 4), 0},
		{points(3, 4, 3, 4, 1, 2), 0},
		{points(3, 4, 1, 2, 3, 4), 0},
		{points(1, 2, 3, 4, 3, 4), 0},
		{points(-4096, -4096, 4096, 4096, 4095, 4096), 1},
		{points(-4096, -4096, 4096, 4096, 4096, 4095), -1},
		{points(-4096, 4096, 4096, -4096, 0, 0), 0},
		{points(-4096, -4095, 4096, 4096, 0, 0), -1},
	}
	for _, c := range cases {
		if n, e := plane.Turn(c.l[0], c.l[1], c.l[2]); n != c.want || e != api.OK {
			t.Errorf("Turn of %v = %d, %d", c.l, n, e)
		}
	}
	onGrid(3, 4, func(l []api.Point) {
		if n, e := plane.Turn(l[0], l[1], l[2]); n != sign(cross(l[0], l[1], l[2])) || e != api.OK {
			t.Errorf("Turn of %v = %d, %d", l, n, e)
		}
	})
}

func TestTurnOfInvalidPoints(t *testing.T) {
	for _, far := range invalidPoints() {
		for i := range 3 {
			l := points(0, 0, 1, 0, 0, 1)
			l[i] = far
			if n, e := plane.Turn(l[0], l[1], l[2]); n != 0 || e != api.ErrArg {
				t.Errorf("Turn of %v = %d, %d", l, n, e)
			}
		}
	}
}

func TestArea(t *testing.T) {
	square := points(-4096, -4096, 4096, -4096, 4096, 4096, -4096, 4096)
	cases := []struct {
		l    []api.Point
		want int
	}{
		{points(0, 0, 4, 0, 4, 4, 2, 1), 12},
		{points(2, 1, 4, 4, 4, 0, 0, 0), -12},
		{nil, 0},
		{points(), 0},
		{points(5, 6), 0},
		{points(5, 6, 1, 2), 0},
		{points(0, 0, 1, 1, 2, 2), 0},
		{points(0, 0, 2, 2, 2, 0, 0, 2), 0},
		{points(1, 1, 2, 1, 1, 2), 1},
		{square, 2 * 8192 * 8192},
		{slices.Repeat(square, 128), 128 * 2 * 8192 * 8192},
		{manyPoints(512), 0},
	}
	for _, c := range cases {
		if n, e := plane.Area(c.l); n != c.want || e != api.OK {
			t.Errorf("Area of %v = %d, %d", c.l, n, e)
		}
	}
}

func TestAreaOfInvalidLists(t *testing.T) {
	for _, l := range notSets() {
		if len(l) == 0 {
			continue
		}
		if n, e := plane.Area(l); n != 0 || e != api.ErrArg {
			t.Errorf("Area of %d points = %d, %d", len(l), n, e)
		}
	}
}

func TestMovedPoints(t *testing.T) {
	r := rand.New(rand.NewSource(3))
	for range 2000 {
		l := random(r, 3+r.Intn(5), 3)
		by := random(r, 1, 4000)[0]
		m := moved(l, by)
		if n, _ := plane.Turn(l[0], l[1], l[2]); n != turnOf(m) {
			t.Errorf("the turn of %v changes", l)
		}
		for _, f := range []func([]api.Point) (int, api.Errno){plane.Area, plane.Widest, plane.Nearest} {
			was, _ := f(l)
			if n, e := f(m); n != was || e != api.OK {
				t.Errorf("%d becomes %d when %v is moved by %v", was, n, l, by)
			}
		}
	}
}

func moved(l []api.Point, by api.Point) []api.Point {
	m := slices.Clone(l)
	for i := range m {
		m[i].X += by.X
		m[i].Y += by.Y
	}
	return m
}

func turnOf(l []api.Point) int {
	n, _ := plane.Turn(l[0], l[1], l[2])
	return n
}

// TestArgumentsStay calls everything with points whose order matters (rule 5).
func TestArgumentsStay(t *testing.T) {
	p, q := points(4, 4, 2, 1, 0, 0, 4, 0), points(9, 9, 7, 8, 8, 7, 7, 7)
	triangles, _ := plane.Triangulate(p)
	kept := slices.Clone(triangles)
	v, _ := plane.Separate(p, q)
	plane.Hull(p)
	plane.Area(p)
	plane.Widest(p)
	plane.Nearest(p)
	plane.Simple(p)
	plane.Inside(p, api.Point{})
	plane.Covers(p, triangles)
	plane.Check(p, q, v)
	if !slices.Equal(p, points(4, 4, 2, 1, 0, 0, 4, 0)) || !slices.Equal(q, points(9, 9, 7, 8, 8, 7, 7, 7)) || !slices.Equal(kept, triangles) {
		t.Errorf("an argument was changed: %v, %v, %v", p, q, triangles)
	}
}

// TestResultsAreNew changes a result, and asks again.
func TestResultsAreNew(t *testing.T) {
	for _, p := range [][]api.Point{points(3, 4), points(0, 0, 4, 0, 0, 4)} {
		kept := slices.Clone(p)
		first, _ := plane.Hull(p)
		want := slices.Clone(first)
		first[0].X = 99
		again, _ := plane.Hull(p)
		if !slices.Equal(again, want) || !slices.Equal(p, kept) {
			t.Errorf("Hull shares memory: %v, %v", again, p)
		}
	}
	p := points(0, 0, 4, 0, 4, 4, 2, 1)
	first, _ := plane.Triangulate(p)
	want := slices.Clone(first)
	first[0] = [3]int{}
	if again, _ := plane.Triangulate(p); !slices.Equal(again, want) {
		t.Errorf("Triangulate shares memory: %v", again)
	}
}
