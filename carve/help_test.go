package carve_test

import (
	"math"
	"math/rand"
	"slices"

	"silverside/api"
)

// task is what a plan and a bound are for.
type task struct {
	width, height int
	blanks        []api.Blank
}

// blanksOf makes blanks of their widths, heights and values.
func blanksOf(numbers ...int) []api.Blank {
	list := []api.Blank{}
	for i := 0; i < len(numbers); i += 3 {
		list = append(list, api.Blank{W: numbers[i], H: numbers[i+1], Value: numbers[i+2]})
	}
	return list
}

// steps makes a plan of kinds and their numbers.
func steps(numbers ...int) []api.Step {
	list := []api.Step{}
	for i := 0; i < len(numbers); i += 2 {
		list = append(list, api.Step{Kind: numbers[i], Arg: numbers[i+1]})
	}
	return list
}

// invalidTasks break one condition of a task each, and some break all of them.
func invalidTasks() []task {
	good := blanksOf(2, 1, 3)
	list := []task{
		{5, 2, slices.Repeat(good, 17)},
		{5, 2, slices.Repeat(good, 100000)},
		{0, 0, blanksOf(0, 0, -1)},
	}
	for _, side := range []int{0, -1, 49, 1 << 32, math.MaxInt, math.MinInt} {
		list = append(list,
			task{side, 2, good}, task{5, side, good}, task{side, 2, nil}, task{5, side, nil},
			task{5, 2, blanksOf(side, 1, 3)}, task{5, 2, blanksOf(2, side, 3)},
			task{5, 2, blanksOf(2, 1, 3, 1, 1, 1, side, 1, 3)}, task{5, 2, blanksOf(1, side, 1, 2, 1, 3)})
	}
	for _, value := range []int{-1, 1<<20 + 1, math.MaxInt, math.MinInt} {
		list = append(list, task{5, 2, blanksOf(2, 1, value)}, task{5, 2, blanksOf(2, 1, 3, 2, 1, value)})
	}
	return list
}

// random returns a task with sides up to side and values up to value.
func random(r *rand.Rand, side, value int) task {
	t := task{width: 1 + r.Intn(side), height: 1 + r.Intn(side)}
	for range r.Intn(5) {
		t.blanks = append(t.blanks, api.Blank{W: 1 + r.Intn(side), H: 1 + r.Intn(side), Value: r.Intn(value + 1)})
	}
	return t
}

// sampleTasks are tasks of all kinds, from the smallest to the largest.
func sampleTasks() []task {
	r := rand.New(rand.NewSource(2))
	list := []task{
		{1, 1, nil},
		{1, 1, blanksOf(1, 1, 0)},
		{1, 1, blanksOf(1, 1, 1<<20)},
		{1, 1, blanksOf(2, 1, 5, 1, 2, 5)},
		{48, 48, []api.Blank{}},
		{48, 48, blanksOf(1, 1, 1<<20)},
		{48, 48, blanksOf(48, 48, 1<<20)},
		{48, 48, blanksOf(48, 1, 7, 1, 48, 7)},
		{48, 1, blanksOf(1, 1, 1, 5, 1, 6, 7, 1, 9)},
		{1, 48, blanksOf(1, 1, 1, 1, 5, 6, 1, 7, 9)},
		{47, 48, slices.Repeat(blanksOf(3, 5, 1<<20), 16)},
	}
	for range 300 {
		list = append(list, random(r, 4, 3), random(r, 9, 20))
	}
	for range 20 {
		t := random(r, 48, 1<<20)
		for range 11 {
			t.blanks = append(t.blanks, api.Blank{W: 1 + r.Intn(48), H: 1 + r.Intn(48), Value: r.Intn(1 << 20)})
		}
		list = append(list, t)
	}
	return list
}

// worths are the greatest worths of all pieces up to those sides, by the chapter's definition of a plan: a piece is waste, a blank, or two parts.
func worths(t task) [][]int {
	lists := make([][]int, t.width+1)
	for w := range lists {
		lists[w] = make([]int, t.height+1)
		for h := range lists[w] {
			for _, b := range t.blanks {
				if b.W <= w && b.H <= h {
					lists[w][h] = max(lists[w][h], b.Value)
				}
			}
			for x := 1; x < w; x++ {
				lists[w][h] = max(lists[w][h], lists[x][h]+lists[w-x][h])
			}
			for y := 1; y < h; y++ {
				lists[w][h] = max(lists[w][h], lists[w][y]+lists[w][h-y])
			}
		}
	}
	return lists
}

// isBound is the chapter's definition of a bound. Its first loop makes the sums of the second one exact.
func isBound(t task, bound [][]int) bool {
	if len(bound) != t.width+1 {
		return false
	}
	for _, list := range bound {
		if len(list) != t.height+1 || slices.Min(list) < 0 || slices.Max(list) > 1<<40 {
			return false
		}
	}
	for w := range bound {
		for h, n := range bound[w] {
			for _, b := range t.blanks {
				if b.W <= w && b.H <= h && n < b.Value {
					return false
				}
			}
			for x := 1; x < w; x++ {
				if n < bound[x][h]+bound[w-x][h] {
					return false
				}
			}
			for y := 1; y < h; y++ {
				if n < bound[w][y]+bound[w][h-y] {
					return false
				}
			}
		}
	}
	return true
}

// value reads a plan with a stack of the pieces that are still to be carved, the next one last.
func value(t task, plan []api.Step) (worth, rest int, right bool) {
	stack := [][2]int{{t.width, t.height}}
	rest = t.width * t.height
	for _, s := range plan {
		if len(stack) == 0 {
			return 0, 0, false
		}
		w, h := stack[len(stack)-1][0], stack[len(stack)-1][1]
		stack = stack[:len(stack)-1]
		switch {
		case s.Kind == 0 && s.Arg == 0:
		case s.Kind == 1 && 0 <= s.Arg && s.Arg < len(t.blanks) && t.blanks[s.Arg].W <= w && t.blanks[s.Arg].H <= h:
			worth += t.blanks[s.Arg].Value
			rest -= t.blanks[s.Arg].W * t.blanks[s.Arg].H
		case s.Kind == 2 && 1 <= s.Arg && s.Arg <= w-1:
			stack = append(stack, [2]int{w - s.Arg, h}, [2]int{s.Arg, h})
		case s.Kind == 3 && 1 <= s.Arg && s.Arg <= h-1:
			stack = append(stack, [2]int{w, h - s.Arg}, [2]int{w, s.Arg})
		default:
			return 0, 0, false
		}
	}
	if len(stack) > 0 {
		return 0, 0, false
	}
	return worth, rest, true
}

// randomPlan returns a right plan of a piece of the width w and the height h.
func randomPlan(r *rand.Rand, t task, w, h int) []api.Step {
	kind, arg := r.Intn(6), 0
	switch {
	case kind >= 2 && kind <= 3 && w > 1:
		arg = 1 + r.Intn(w-1)
		plan := append(steps(api.Across, arg), randomPlan(r, t, arg, h)...)
		return append(plan, randomPlan(r, t, w-arg, h)...)
	case kind >= 4 && h > 1:
		arg = 1 + r.Intn(h-1)
		plan := append(steps(api.Along, arg), randomPlan(r, t, w, arg)...)
		return append(plan, randomPlan(r, t, w, h-arg)...)
	}
	for _, i := range r.Perm(len(t.blanks)) {
		if kind > 0 && t.blanks[i].W <= w && t.blanks[i].H <= h {
			return steps(api.Make, i)
		}
	}
	return steps(api.Waste, 0)
}

// copied returns the same lists in new memory.
func copied(bound [][]int) [][]int {
	lists := slices.Clone(bound)
	for i := range lists {
		lists[i] = slices.Clone(lists[i])
	}
	return lists
}

// same compares lists.
func same(a, b [][]int) bool {
	return slices.EqualFunc(a, b, func(x, y []int) bool { return slices.Equal(x, y) })
}
