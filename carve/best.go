package carve

import (
	"slices"

	"silverside/api"
)

// table holds, at w, h, the greatest worth of a piece of the width w and the height h, and the first step of a plan that is worth as much.
type table struct {
	worth [api.MaxSide + 1][api.MaxSide + 1]int
	first [api.MaxSide + 1][api.MaxSide + 1]api.Step
}

func fill(width, height int, blanks []api.Blank) *table {
	t := &table{}
	for w := 1; w <= width; w++ {
		for h := 1; h <= height; h++ {
			t.decide(w, h, blanks)
		}
	}
	return t
}

// decide needs the entries of all smaller pieces. It tries each cut once, as its two parts may be exchanged.
func (t *table) decide(w, h int, blanks []api.Blank) {
	offer := func(kind, arg, worth int) {
		if worth > t.worth[w][h] {
			t.worth[w][h] = worth
			t.first[w][h] = api.Step{Kind: kind, Arg: arg}
		}
	}
	for i, b := range blanks {
		if fits(b, w, h) {
			offer(api.Make, i, b.Value)
		}
	}
	for x := 1; x <= w-x; x++ {
		offer(api.Across, x, t.worth[x][h]+t.worth[w-x][h])
	}
	for y := 1; y <= h-y; y++ {
		offer(api.Along, y, t.worth[w][y]+t.worth[w][h-y])
	}
}

// plan follows the first steps. Each part has an area of at least 1, so that a plan has fewer than twice MaxSide times MaxSide steps, which is less than MaxSteps.
func (t *table) plan(w, h int) []api.Step {
	step := t.first[w][h]
	switch step.Kind {
	case api.Across:
		return planOf(step, t.plan(step.Arg, h), t.plan(w-step.Arg, h))
	case api.Along:
		return planOf(step, t.plan(w, step.Arg), t.plan(w, h-step.Arg))
	}
	return planOf(step)
}

// planOf puts a step before the plans of the parts that it leads to.
func planOf(step api.Step, parts ...[]api.Step) []api.Step {
	plan := []api.Step{step}
	for _, part := range parts {
		plan = append(plan, part...)
	}
	return plan
}

// bound copies each list, so that no two of them share memory.
func (t *table) bound(width, height int) [][]int {
	lists := make([][]int, width+1)
	for w := range lists {
		lists[w] = slices.Clone(t.worth[w][:height+1])
	}
	return lists
}
