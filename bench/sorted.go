package bench

import (
	"cmp"
	"slices"

	"silverside/api"
)

// sorted returns a new list, so that a list that belongs to the caller stays as it is.
func sorted[T any](list []T, compare func(a, b T) int) []T {
	result := slices.Clone(list)
	slices.SortFunc(result, compare)
	return result
}

// inOrderOf compares slots by their owner, and those of one owner by their beginning.
func inOrderOf(owner func(api.Slot) int) func(a, b api.Slot) int {
	return func(a, b api.Slot) int {
		return cmp.Or(cmp.Compare(owner(a), owner(b)), cmp.Compare(a.From, b.From))
	}
}

func benchOf(slot api.Slot) int {
	return slot.Bench
}

func jobOf(slot api.Slot) int {
	return slot.Job
}
