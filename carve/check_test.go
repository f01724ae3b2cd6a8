package carve_test

import (
	"math"
	"math/rand"
	"slices"
	"testing"

	"silverside/api"
	"silverside/carve"
)

// P2.2: plans.

// tryPlan compares Worth and Rest with what they should return.
func tryPlan(t *testing.T, c task, plan []api.Step, worth, rest int, right bool) {
	t.Helper()
	want := api.OK
	if !right {
		want = api.ErrPlan
	}
	if n, e := carve.Worth(c.width, c.height, c.blanks, plan); n != worth || e != want {
		t.Errorf("Worth of %v, %v = %d, %d", c, plan, n, e)
	}
	if n, e := carve.Rest(c.width, c.height, c.blanks, plan); n != rest || e != want {
		t.Errorf("Rest of %v, %v = %d, %d", c, plan, n, e)
	}
}

func TestRightPlans(t *testing.T) {
	c := task{5, 2, blanksOf(2, 1, 3, 1, 2, 4, 2, 1, 5, 1, 1, 0)}
	cases := []struct {
		plan        []api.Step
		worth, rest int
	}{
		{steps(2, 3, 1, 0, 0, 0), 3, 8},
		{steps(0, 0), 0, 10},
		{steps(1, 0), 3, 8},
		{steps(1, 2), 5, 8},
		{steps(1, 3), 0, 9},
		{steps(2, 4, 1, 0, 1, 1), 7, 6},
		{steps(2, 1, 1, 1, 1, 0), 7, 6},
		{steps(3, 1, 0, 0, 1, 2), 5, 8},
		{steps(3, 1, 2, 3, 1, 0, 1, 0, 2, 1, 0, 0, 1, 2), 11, 4},
		{steps(2, 2, 3, 1, 1, 0, 1, 0, 2, 2, 3, 1, 1, 0, 1, 0, 1, 1), 16, 0},
	}
	for _, p := range cases {
		tryPlan(t, c, p.plan, p.worth, p.rest, true)
	}
	tryPlan(t, task{1, 1, nil}, steps(0, 0), 0, 1, true)
	tryPlan(t, task{48, 48, blanksOf(48, 48, 1<<20)}, steps(1, 0), 1<<20, 0, true)
	tryPlan(t, task{48, 1, nil}, steps(2, 47, 0, 0, 0, 0), 0, 48, true)
	tryPlan(t, task{1, 48, nil}, steps(3, 47, 0, 0, 0, 0), 0, 48, true)
}

func TestWrongPlans(t *testing.T) {
	c := task{5, 2, blanksOf(2, 1, 3, 6, 1, 1, 1, 3, 1)}
	plans := [][]api.Step{
		nil,
		steps(),
		steps(0, 1),
		steps(0, -1),
		steps(1, -1),
		steps(1, 3),
		steps(1, 1),
		steps(1, 2),
		steps(2, 0, 0, 0, 0, 0),
		steps(2, -1, 0, 0, 0, 0),
		steps(2, 5, 0, 0, 0, 0),
		steps(2, 6, 0, 0, 0, 0),
		steps(3, 0, 0, 0, 0, 0),
		steps(3, -1, 0, 0, 0, 0),
		steps(3, 2, 0, 0, 0, 0),
		steps(3, 4, 0, 0, 0, 0),
		steps(4, 1, 0, 0, 0, 0),
		steps(4, 0),
		steps(-1, 0),
		steps(2, 3),
		steps(2, 3, 0, 0),
		steps(2, 3, 0, 0, 0, 0, 0, 0),
		steps(0, 0, 0, 0),
		steps(0, 0, 9, 9),
		steps(2, 1, 1, 0, 0, 0),
		steps(2, 4, 0, 0, 1, 0),
		steps(2, 2, 2, 2, 0, 0, 0, 0, 0, 0),
		steps(2, 4, 0, 0, 2, 1, 0, 0, 0, 0),
		steps(3, 1, 3, 1, 0, 0, 0, 0, 0, 0),
		steps(2, 2, 3, 1, 0, 0, 0, 1, 0, 0),
	}
	for _, far := range []int{1 << 32, math.MaxInt, math.MinInt} {
		plans = append(plans, steps(0, far), steps(1, far), steps(far, 0), steps(2, far, 0, 0, 0, 0), steps(3, far, 0, 0, 0, 0))
	}
	for _, plan := range plans {
		tryPlan(t, c, plan, 0, 0, false)
	}
	tryPlan(t, task{1, 1, nil}, steps(1, 0), 0, 0, false)
	tryPlan(t, task{1, 1, nil}, steps(2, 1, 0, 0, 0, 0), 0, 0, false)
}

// TestAllShortPlans compares with a reading by a stack.
func TestAllShortPlans(t *testing.T) {
	words := steps(0, 0, 0, 1, 1, 0, 1, 1, 1, 2, 2, 1, 2, 2, 3, 1, 3, 2, 4, 1)
	found := 0
	for _, c := range []task{{3, 2, blanksOf(2, 1, 3, 1, 2, 4)}, {2, 3, blanksOf(1, 3, 2, 2, 2, 5, 1, 1, 1)}, {1, 1, blanksOf(1, 1, 7)}} {
		for n := range 6 {
			for code := range power(len(words), n) {
				plan := []api.Step{}
				for range n {
					plan = append(plan, words[code%len(words)])
					code /= len(words)
				}
				worth, rest, right := value(c, plan)
				tryPlan(t, c, plan, worth, rest, right)
				if right {
					found++
				}
			}
		}
	}
	if found < 200 {
		t.Errorf("only %d plans were right", found)
	}
}

func power(n, times int) int {
	product := 1
	for range times {
		product *= n
	}
	return product
}

// TestChangedPlans changes right plans in one step.
func TestChangedPlans(t *testing.T) {
	r := rand.New(rand.NewSource(6))
	for i := range 4000 {
		c := random(r, 2+i%47, 1+i%50)
		plan := randomPlan(r, c, c.width, c.height)
		worth, rest, right := value(c, plan)
		if !right {
			t.Fatalf("%v, %v is not right", c, plan)
		}
		tryPlan(t, c, plan, worth, rest, true)
		at := r.Intn(len(plan))
		changed := slices.Clone(plan)
		changed[at] = api.Step{Kind: r.Intn(5), Arg: r.Intn(9) - 1}
		for _, p := range [][]api.Step{changed, plan[:at], plan[at+1:], slices.Concat(plan, plan[at:])} {
			worth, rest, right = value(c, p)
			tryPlan(t, c, p, worth, rest, right)
		}
	}
}

// TestLongPlans has the longest plan that is right, which has a piece for each unit of area, and longer ones.
func TestLongPlans(t *testing.T) {
	c := task{48, 48, blanksOf(1, 1, 1<<20)}
	row := []api.Step{}
	for x := 47; x > 0; x-- {
		row = append(row, steps(2, x)...)
	}
	row = append(row, slices.Repeat(steps(1, 0), 48)...)
	plan := []api.Step{}
	for range 47 {
		plan = append(append(plan, steps(3, 1)...), row...)
	}
	plan = append(plan, row...)
	if len(plan) != 2*2304-1 {
		t.Fatalf("%d steps", len(plan))
	}
	tryPlan(t, c, plan, 2304<<20, 0, true)
	for _, n := range []int{len(plan) + 1, 8192, 8193, 1 << 20} {
		long := append(slices.Clone(plan), make([]api.Step, n-len(plan))...)
		tryPlan(t, c, long, 0, 0, false)
		tryPlan(t, c, make([]api.Step, n), 0, 0, false)
		tryPlan(t, c, slices.Repeat(steps(2, 1), n), 0, 0, false)
	}
}

func TestPlansOfInvalidTasks(t *testing.T) {
	for _, c := range invalidTasks() {
		for _, plan := range [][]api.Step{nil, steps(0, 0), steps(1, 0), steps(9, 9)} {
			if n, e := carve.Worth(c.width, c.height, c.blanks, plan); n != 0 || e != api.ErrArg {
				t.Errorf("Worth of %d %d with %d blanks = %d, %d", c.width, c.height, len(c.blanks), n, e)
			}
			if n, e := carve.Rest(c.width, c.height, c.blanks, plan); n != 0 || e != api.ErrArg {
				t.Errorf("Rest of %d %d with %d blanks = %d, %d", c.width, c.height, len(c.blanks), n, e)
			}
		}
	}
}

// P2.2: bounds.

// tryBound compares Check with what it should return.
func tryBound(t *testing.T, c task, bound [][]int, right bool) {
	t.Helper()
	want := api.OK
	if !right {
		want = api.ErrBound
	}
	if e := carve.Check(c.width, c.height, c.blanks, bound); e != want {
		t.Errorf("Check of %v, %v = %d", c, bound, e)
	}
}

func TestCheck(t *testing.T) {
	small := task{2, 1, blanksOf(1, 1, 3)}
	cases := []struct {
		task
		bound [][]int
		right bool
	}{
		{small, [][]int{{0, 0}, {0, 3}, {0, 6}}, true},
		{small, [][]int{{0, 0}, {0, 3}, {0, 7}}, true},
		{small, [][]int{{0, 0}, {0, 3}, {0, 1 << 40}}, true},
		{small, [][]int{{1 << 40, 1 << 40}, {1 << 39, 1 << 39}, {1 << 40, 1 << 40}}, true},
		{small, [][]int{{0, 0}, {0, 3}, {0, 5}}, false},
		{small, [][]int{{0, 0}, {0, 2}, {0, 6}}, false},
		{small, [][]int{{0, 0}, {0, 4}, {0, 7}}, false},
		{small, [][]int{{0, 0}, {0, 3}, {0, 1<<40 + 1}}, false},
		{small, [][]int{{1<<40 + 1, 0}, {0, 3}, {0, 6}}, false},
		{small, [][]int{{-1, 0}, {0, 3}, {0, 6}}, false},
		{small, [][]int{{0, 0}, {0, 3}, {0, math.MaxInt}}, false},
		{small, [][]int{{0, 0}, {0, math.MaxInt}, {0, 6}}, false},
		{small, [][]int{{0, 0}, {0, math.MinInt}, {0, 6}}, false},
		{small, [][]int{{0, 0}, {0, 3}}, false},
		{small, [][]int{{0, 0}, {0, 3}, {0, 6}, {0, 9}}, false},
		{small, [][]int{{0, 0}, {0, 3}, {0}}, false},
		{small, [][]int{{0, 0}, {0, 3}, {0, 6, 6}}, false},
		{small, [][]int{{0}, {0, 3}, {0, 6}}, false},
		{small, [][]int{nil, {0, 3}, {0, 6}}, false},
		{small, [][]int{{0, 0, 0}, {0, 3, 6}}, false},
		{small, [][]int{}, false},
		{small, nil, false},
		{task{1, 2, blanksOf(1, 1, 3)}, [][]int{{0, 0, 0}, {0, 3, 6}}, true},
		{task{1, 2, blanksOf(1, 1, 3)}, [][]int{{0, 0, 0}, {0, 3, 5}}, false},
		{task{1, 1, nil}, [][]int{{0, 0}, {0, 0}}, true},
		{task{1, 1, blanksOf(1, 1, 0)}, [][]int{{0, 0}, {0, 0}}, true},
		{task{1, 1, blanksOf(2, 1, 9, 1, 2, 9)}, [][]int{{0, 0}, {0, 0}}, true},
		{task{1, 1, blanksOf(1, 1, 1, 1, 1, 2)}, [][]int{{0, 0}, {0, 1}}, false},
		{task{1, 1, blanksOf(1, 1, 2, 1, 1, 1)}, [][]int{{0, 0}, {0, 1}}, false},
		{task{1, 1, blanksOf(1, 1, 2, 1, 1, 1)}, [][]int{{0, 0}, {0, 2}}, true},
	}
	for _, c := range cases {
		tryBound(t, c.task, c.bound, c.right)
	}
}

// TestCheckAtThePosition0: the conditions are those of all positions, also of a piece without an area.
func TestCheckAtThePosition0(t *testing.T) {
	high, wide := task{1, 3, nil}, task{3, 1, nil}
	tryBound(t, high, [][]int{{9, 1, 2, 3}, {0, 0, 0, 0}}, true)
	tryBound(t, high, [][]int{{0, 1, 2, 2}, {0, 0, 0, 0}}, false)
	tryBound(t, high, [][]int{{0, 1, 1, 3}, {0, 0, 0, 0}}, false)
	tryBound(t, wide, [][]int{{9, 0}, {1, 0}, {2, 0}, {3, 0}}, true)
	tryBound(t, wide, [][]int{{0, 0}, {1, 0}, {2, 0}, {2, 0}}, false)
	tryBound(t, wide, [][]int{{0, 0}, {1, 0}, {1, 0}, {3, 0}}, false)
}

// TestChangedBounds changes the least bound: a number that is lowered is too low, and one that is raised may be too high for a sum.
func TestChangedBounds(t *testing.T) {
	r := rand.New(rand.NewSource(1))
	for i := range 300 {
		c := random(r, 2+i%8, 1+i%9)
		least := worths(c)
		tryBound(t, c, least, true)
		for w := range least {
			for h := range least[w] {
				changed := copied(least)
				changed[w][h]--
				tryBound(t, c, changed, false)
				changed[w][h] += 2
				tryBound(t, c, changed, isBound(c, changed))
				changed[w] = changed[w][:h]
				tryBound(t, c, changed, false)
			}
			tryBound(t, c, least[:w], false)
		}
	}
}

// TestAllSmallBounds compares with the definition for all numbers up to 2.
func TestAllSmallBounds(t *testing.T) {
	for _, c := range []task{{2, 2, nil}, {2, 2, blanksOf(1, 1, 0, 2, 1, 1)}, {2, 2, blanksOf(1, 2, 2)}, {3, 1, blanksOf(2, 1, 1)}, {1, 3, blanksOf(1, 1, 0, 1, 3, 2)}} {
		size := (c.width + 1) * (c.height + 1)
		for code := range power(3, size) {
			bound := make([][]int, c.width+1)
			for i := range size {
				bound[i/(c.height+1)] = append(bound[i/(c.height+1)], code%3)
				code /= 3
			}
			tryBound(t, c, bound, isBound(c, bound))
		}
	}
}

func TestCheckOfLargeBounds(t *testing.T) {
	c := task{48, 48, slices.Repeat(blanksOf(1, 1, 1<<20, 48, 48, 1<<20), 8)}
	least := worths(c)
	tryBound(t, c, least, true)
	for _, at := range [][2]int{{48, 48}, {48, 1}, {1, 48}, {47, 31}, {1, 1}} {
		changed := copied(least)
		changed[at[0]][at[1]]--
		tryBound(t, c, changed, false)
	}
	least[48][48] = 1 << 40
	tryBound(t, c, least, true)
	tryBound(t, c, make([][]int, 1<<20), false)
}

func TestCheckOfInvalidTasks(t *testing.T) {
	for _, c := range invalidTasks() {
		for _, bound := range [][][]int{nil, {{0, 0}, {0, 1 << 20}}, {{-1}}} {
			if e := carve.Check(c.width, c.height, c.blanks, bound); e != api.ErrArg {
				t.Errorf("Check of %d %d with %d blanks = %d", c.width, c.height, len(c.blanks), e)
			}
		}
	}
}
