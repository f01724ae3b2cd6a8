package carve_test

import (
	"math/rand"
	"slices"
	"testing"

	"silverside/api"
	"silverside/carve"
)

// P2.1.

func TestBest(t *testing.T) {
	cases := []struct {
		task
		want int
	}{
		{task{5, 2, blanksOf(2, 1, 3)}, 12},
		{task{3, 3, blanksOf(1, 2, 1, 2, 1, 1)}, 4},
		{task{2, 5, blanksOf(2, 1, 3)}, 15},
		{task{1, 5, blanksOf(2, 1, 3)}, 0},
		{task{1, 1, nil}, 0},
		{task{48, 48, nil}, 0},
		{task{1, 1, blanksOf(1, 1, 1<<20)}, 1 << 20},
		{task{3, 2, blanksOf(1, 1, 0)}, 0},
		{task{5, 5, blanksOf(6, 1, 9, 1, 6, 9)}, 0},
		{task{5, 5, blanksOf(3, 3, 4, 3, 3, 5, 3, 3, 4)}, 5},
		{task{5, 5, blanksOf(3, 2, 6, 2, 3, 6)}, 18},
		{task{7, 1, blanksOf(3, 1, 5, 2, 1, 3)}, 11},
		{task{1, 7, blanksOf(1, 3, 5, 1, 2, 3)}, 11},
		{task{48, 48, blanksOf(1, 1, 1<<20)}, 2304 << 20},
		{task{48, 48, blanksOf(48, 48, 1, 48, 48, 0)}, 1},
		{task{48, 48, slices.Repeat(blanksOf(7, 7, 1<<20), 16)}, 36 << 20},
	}
	for _, c := range cases {
		plan, bound, e := carve.Best(c.width, c.height, c.blanks)
		if n, _, right := value(c.task, plan); e != api.OK || !right || n != c.want || bound[c.width][c.height] != c.want {
			t.Errorf("Best of %v = %v, %v, %d", c.task, plan, bound, e)
		}
	}
}

// TestBestOfSamples compares with the definitions of a right plan, of its worth, and of a bound.
func TestBestOfSamples(t *testing.T) {
	for _, c := range sampleTasks() {
		plan, bound, e := carve.Best(c.width, c.height, c.blanks)
		if e != api.OK || !isBound(c, bound) {
			t.Fatalf("Best of %v: no bound: %v, %d", c, bound, e)
		}
		n, _, right := value(c, plan)
		if !right || len(plan) > api.MaxSteps || n != bound[c.width][c.height] {
			t.Errorf("Best of %v: a plan worth %d, a bound of %d: %v", c, n, bound[c.width][c.height], plan)
		}
		if want := worths(c)[c.width][c.height]; n != want {
			t.Errorf("Best of %v is worth %d, not %d", c, n, want)
		}
	}
}

// TestBestIsChecked has the package check its own certificates.
func TestBestIsChecked(t *testing.T) {
	for _, c := range sampleTasks() {
		plan, bound, _ := carve.Best(c.width, c.height, c.blanks)
		if e := carve.Check(c.width, c.height, c.blanks, bound); e != api.OK {
			t.Errorf("Check of %v: %d", c, e)
		}
		if n, e := carve.Worth(c.width, c.height, c.blanks, plan); n != bound[c.width][c.height] || e != api.OK {
			t.Errorf("Worth of %v: %d, %d", c, n, e)
		}
		if n, e := carve.Rest(c.width, c.height, c.blanks, plan); n < 0 || n > c.width*c.height || e != api.OK {
			t.Errorf("Rest of %v: %d, %d", c, n, e)
		}
	}
}

func TestBestOfInvalidTasks(t *testing.T) {
	for _, c := range invalidTasks() {
		if plan, bound, e := carve.Best(c.width, c.height, c.blanks); len(plan) != 0 || len(bound) != 0 || e != api.ErrArg {
			t.Errorf("Best of %d %d with %d blanks = %v, %v, %d", c.width, c.height, len(c.blanks), plan, bound, e)
		}
	}
}

// TestResultsAreNew changes a result in all its capacity, and looks at the others (rule 5).
func TestResultsAreNew(t *testing.T) {
	c := task{5, 4, blanksOf(2, 1, 3, 1, 3, 4)}
	plan, bound, _ := carve.Best(c.width, c.height, c.blanks)
	keptPlan, keptBound := slices.Clone(plan), copied(bound)
	for w := range bound {
		for i := range bound[w][:cap(bound[w])] {
			bound[w][:cap(bound[w])][i] = -7
		}
		for i, list := range bound {
			if i > w && !slices.Equal(list, keptBound[i]) {
				t.Errorf("the lists %d and %d share memory", w, i)
			}
		}
	}
	if !slices.Equal(plan, keptPlan) {
		t.Errorf("the plan and the bound share memory")
	}
	plan[0] = api.Step{Kind: -7}
	againPlan, againBound, _ := carve.Best(c.width, c.height, c.blanks)
	if !slices.Equal(againPlan, keptPlan) || !same(againBound, keptBound) {
		t.Errorf("two calls share memory: %v, %v", againPlan, againBound)
	}
}

// TestArgumentsStay calls everything with arguments that are kept beside it (rule 5).
func TestArgumentsStay(t *testing.T) {
	r := rand.New(rand.NewSource(9))
	for range 200 {
		c := random(r, 7, 9)
		blanks := slices.Clone(c.blanks)
		plan, bound, _ := carve.Best(c.width, c.height, c.blanks)
		keptPlan, keptBound := slices.Clone(plan), copied(bound)
		carve.Worth(c.width, c.height, c.blanks, plan)
		carve.Rest(c.width, c.height, c.blanks, plan)
		carve.Check(c.width, c.height, c.blanks, bound)
		if !slices.Equal(c.blanks, blanks) || !slices.Equal(plan, keptPlan) || !same(bound, keptBound) {
			t.Errorf("an argument was changed: %v, %v, %v", c, plan, bound)
		}
	}
}

// P2.3.

func best(t *testing.T, c task) int {
	t.Helper()
	_, bound, e := carve.Best(c.width, c.height, c.blanks)
	if e != api.OK {
		t.Fatalf("Best of %v: %d", c, e)
	}
	return bound[c.width][c.height]
}

func turned(c task) task {
	list := []api.Blank{}
	for _, b := range c.blanks {
		list = append(list, api.Blank{W: b.H, H: b.W, Value: b.Value})
	}
	return task{c.height, c.width, list}
}

func TestProperties(t *testing.T) {
	r := rand.New(rand.NewSource(4))
	for i := range 600 {
		c := random(r, 2+i%11, 1+i%30)
		n := best(t, c)
		if wider, higher := best(t, task{c.width + 1, c.height, c.blanks}), best(t, task{c.width, c.height + 1, c.blanks}); wider < n || higher < n {
			t.Errorf("%v is worth %d, a wider piece %d, a higher one %d", c, n, wider, higher)
		}
		further := append(slices.Clone(c.blanks), random(r, 12, 30).blanks...)
		if m := best(t, task{c.width, c.height, further}); m < n {
			t.Errorf("%v is worth %d, and %d with the blanks %v", c, n, m, further)
		}
		if m := best(t, turned(c)); m != n {
			t.Errorf("%v is worth %d, and turned %d", c, n, m)
		}
		for x := 1; x < c.width; x++ {
			if m := best(t, task{x, c.height, c.blanks}) + best(t, task{c.width - x, c.height, c.blanks}); m > n {
				t.Errorf("%v is worth %d, and cut across at %d %d", c, n, x, m)
			}
		}
		for y := 1; y < c.height; y++ {
			if m := best(t, task{c.width, y, c.blanks}) + best(t, task{c.width, c.height - y, c.blanks}); m > n {
				t.Errorf("%v is worth %d, and cut along at %d %d", c, n, y, m)
			}
		}
	}
}

// looseBound returns a bound that is not the least one: the area times the greatest value by area, plus what has no need to be exact.
func looseBound(r *rand.Rand, c task) [][]int {
	dearest := r.Intn(2)
	for _, b := range c.blanks {
		dearest = max(dearest, (b.Value+b.W*b.H-1)/(b.W*b.H))
	}
	lists := make([][]int, c.width+1)
	for w := range lists {
		for h := range c.height + 1 {
			lists[w] = append(lists[w], w*h*dearest)
		}
	}
	lists[c.width][c.height] += r.Intn(3)
	return lists
}

func TestNoPlanIsWorthMoreThanABound(t *testing.T) {
	r := rand.New(rand.NewSource(8))
	for i := range 2000 {
		c := random(r, 2+i%20, 1+i%30)
		_, tight, _ := carve.Best(c.width, c.height, c.blanks)
		loose := looseBound(r, c)
		if e := carve.Check(c.width, c.height, c.blanks, loose); e != api.OK {
			t.Fatalf("Check of %v, %v: %d", c, loose, e)
		}
		for range 10 {
			plan := randomPlan(r, c, c.width, c.height)
			n, e := carve.Worth(c.width, c.height, c.blanks, plan)
			if e != api.OK || n > tight[c.width][c.height] || n > loose[c.width][c.height] {
				t.Errorf("%v of %v is worth %d, %d", plan, c, n, e)
			}
		}
	}
}
