package plane_test

import (
	"math"
	"math/rand"
	"slices"
	"testing"

	"silverside/api"
	"silverside/plane"
)

// points makes points of pairs of numbers.
func points(numbers ...int) []api.Point {
	list := []api.Point{}
	for i := 0; i < len(numbers); i += 2 {
		list = append(list, api.Point{X: numbers[i], Y: numbers[i+1]})
	}
	return list
}

// invalidPoints are points of which a coordinate is beyond its range.
func invalidPoints() []api.Point {
	list := []api.Point{}
	for _, far := range []int{4097, -4097, 1 << 32, math.MaxInt, math.MinInt} {
		list = append(list, api.Point{X: far}, api.Point{Y: far})
	}
	return list
}

// notSets are lists that are no sets of points.
func notSets() [][]api.Point {
	lists := [][]api.Point{nil, {}, manyPoints(513), manyPoints(100000)}
	for _, far := range invalidPoints() {
		lists = append(lists, []api.Point{far}, []api.Point{{}, {X: 1}, far}, []api.Point{far, {X: 1}, {Y: 1}})
	}
	return lists
}

// manyPoints returns n points on one line, of which many are equal.
func manyPoints(n int) []api.Point {
	list := make([]api.Point, n)
	for i := range list {
		list[i] = api.Point{X: i % 1000, Y: 7}
	}
	return list
}

// random returns n points whose coordinates are from -most to most.
func random(r *rand.Rand, n, most int) []api.Point {
	list := make([]api.Point, n)
	for i := range list {
		list[i] = api.Point{X: r.Intn(2*most+1) - most, Y: r.Intn(2*most+1) - most}
	}
	return list
}

// sampleSets are sets of points of all kinds: small and large, crowded and wide.
func sampleSets() [][]api.Point {
	r := rand.New(rand.NewSource(11))
	lists := [][]api.Point{manyPoints(512), slices.Repeat(points(4096, -4096), 512), spiral(), comb(), circle(512)}
	for i := range 600 {
		lists = append(lists, random(r, 1+r.Intn(9), i%4), random(r, 1+r.Intn(30), 5), random(r, 1+r.Intn(5), 4096))
	}
	return append(lists, random(r, 512, 4096), random(r, 512, 12))
}

// onGrid calls f for all lists of n points of a square grid with the given number of points on a side.
func onGrid(n, side int, f func(list []api.Point)) {
	list := make([]api.Point, n)
	var fill func(at int)
	fill = func(at int) {
		if at == n {
			f(list)
			return
		}
		for x := range side {
			for y := range side {
				list[at] = api.Point{X: x, Y: y}
				fill(at + 1)
			}
		}
	}
	fill(0)
}

// circle returns n points near a circle of the greatest size.
func circle(n int) []api.Point {
	list := make([]api.Point, n)
	for i := range list {
		turned := 2 * math.Pi * float64(i) / float64(n)
		list[i] = api.Point{X: int(4096 * math.Cos(turned)), Y: int(4096 * math.Sin(turned))}
	}
	return list
}

// spiral is a simple polygon with 512 points: a corridor that winds inwards.
func spiral() []api.Point {
	out, in := []api.Point{}, []api.Point{}
	for i := range 256 {
		far := 4000 - 15*i
		at := [][2]int{{-far, -far}, {far, -far}, {far, far}, {-far, far - 30}}[i%4]
		wall := [][2]int{{-far + 9, -far + 9}, {far - 9, -far + 9}, {far - 9, far - 9}, {-far + 9, far - 39}}[i%4]
		out = append(out, api.Point{X: at[0], Y: at[1]})
		in = append(in, api.Point{X: wall[0], Y: wall[1]})
	}
	slices.Reverse(in)
	return append(out, in...)
}

// comb is a simple polygon with 512 points: thin teeth with flat corners between them, all on one line.
func comb() []api.Point {
	list := points(4096, -4096, 4096, 0)
	for i := range 254 {
		x := 4000 - 30*i
		list = append(list, api.Point{X: x, Y: 4096}, api.Point{X: x - 1, Y: 0})
	}
	return append(list, points(-4096, 0, -4096, -4096)...)
}

// star is a simple polygon around 0 0: points in the order of their angles, those in the same direction left out.
func star(r *rand.Rand, n, most int) []api.Point {
	nearest := map[[2]int]api.Point{}
	for _, p := range random(r, n, most) {
		if p == (api.Point{}) {
			continue
		}
		d := gcd(abs(p.X), abs(p.Y))
		nearest[[2]int{p.X / d, p.Y / d}] = p
	}
	list := []api.Point{}
	for _, p := range nearest {
		list = append(list, p)
	}
	slices.SortFunc(list, func(p, q api.Point) int {
		if math.Atan2(float64(p.Y), float64(p.X)) < math.Atan2(float64(q.Y), float64(q.X)) {
			return -1
		}
		return 1
	})
	return list
}

func gcd(a, b int) int {
	for b != 0 {
		a, b = b, a%b
	}
	return a
}

func abs(n int) int {
	return max(n, -n)
}

// samplePolygons are simple polygons in both directions: all with up to five points of a small grid, and large ones.
func samplePolygons(t *testing.T) [][]api.Point {
	lists := [][]api.Point{}
	keep := func(list []api.Point) {
		if plane.Simple(list) {
			lists = append(lists, slices.Clone(list))
		}
	}
	for n := 3; n <= 5; n++ {
		onGrid(n, 3, keep)
	}
	r := rand.New(rand.NewSource(5))
	for range 4000 {
		keep(random(r, 6+r.Intn(3), 3))
	}
	for i := range 200 {
		keep(star(r, 3+i, 20))
		keep(star(r, 3+i, 4096))
	}
	large := [][]api.Point{spiral(), comb(), circle(512), flat(512)}
	for _, list := range large {
		if !plane.Simple(list) {
			t.Fatalf("not simple: %v", list)
		}
		back := slices.Clone(list)
		slices.Reverse(back)
		lists = append(lists, list, back)
	}
	return lists
}

// flat is a triangle with n points, all but one of them on one edge.
func flat(n int) []api.Point {
	list := points(0, 4096)
	for i := range n - 1 {
		list = append(list, api.Point{X: i - 4000, Y: -2})
	}
	return list
}

// cross is the double area of the triangle a, b, c, written down as the chapter has it.
func cross(a, b, c api.Point) int {
	return (b.X-a.X)*(c.Y-a.Y) - (b.Y-a.Y)*(c.X-a.X)
}

// sign is -1, 0 or 1.
func sign(n int) int {
	switch {
	case n < 0:
		return -1
	case n > 0:
		return 1
	}
	return 0
}

// between reports whether p is on the segment from a to b.
func between(a, b, p api.Point) bool {
	inner := (a.X-p.X)*(b.X-p.X) + (a.Y-p.Y)*(b.Y-p.Y)
	return cross(a, b, p) == 0 && inner <= 0
}
