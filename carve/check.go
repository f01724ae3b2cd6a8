package carve

import (
	"silverside/api"
)

// maxBound is the greatest number of a bound.
const maxBound = 1 << 40

// read returns the blanks that a plan makes, and reports whether the plan is right.
func read(width, height int, blanks []api.Blank, plan []api.Step) ([]api.Blank, bool) {
	if len(plan) > api.MaxSteps {
		return nil, false
	}
	made := []api.Blank{}
	at := 0
	var piece func(w, h int) bool
	piece = func(w, h int) bool {
		if at == len(plan) {
			return false
		}
		step := plan[at]
		at++
		switch step.Kind {
		case api.Waste:
			return step.Arg == 0
		case api.Make:
			if step.Arg < 0 || step.Arg >= len(blanks) || !fits(blanks[step.Arg], w, h) {
				return false
			}
			made = append(made, blanks[step.Arg])
			return true
		case api.Across:
			return isCut(step.Arg, w) && piece(step.Arg, h) && piece(w-step.Arg, h)
		case api.Along:
			return isCut(step.Arg, h) && piece(w, step.Arg) && piece(w, h-step.Arg)
		}
		return false
	}
	right := piece(width, height)
	return made, right && at == len(plan)
}

func isCut(at, side int) bool {
	return at >= 1 && at < side
}

// hasForm reports whether the lists have the right lengths, and numbers so small that sums of them are exact.
func hasForm(width, height int, bound [][]int) bool {
	if len(bound) != width+1 {
		return false
	}
	for _, list := range bound {
		if len(list) != height+1 {
			return false
		}
		for _, number := range list {
			if number < 0 || number > maxBound {
				return false
			}
		}
	}
	return true
}

// holds reports whether each number of a bound is as great as it has to be, those at the position 0 of a list included.
func holds(blanks []api.Blank, bound [][]int) bool {
	for w, list := range bound {
		for h, number := range list {
			if number < least(w, h, blanks, bound) {
				return false
			}
		}
	}
	return true
}

// least returns what the number at w, h has to be at least. It looks at each cut once, as its two parts may be exchanged.
func least(w, h int, blanks []api.Blank, bound [][]int) int {
	most := 0
	for _, b := range blanks {
		if fits(b, w, h) {
			most = max(most, b.Value)
		}
	}
	for x := 1; x <= w-x; x++ {
		most = max(most, bound[x][h]+bound[w-x][h])
	}
	for y := 1; y <= h-y; y++ {
		most = max(most, bound[w][y]+bound[w][h-y])
	}
	return most
}
