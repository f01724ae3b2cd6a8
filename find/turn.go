package find

import (
	"silverside/api"
)

// Turn returns the turned text and its mark. As the end mark is less than every byte, and stands in a rotation only once, the rotations are in the order of the suffixes that they begin with: first the empty one, at the end.
func Turn(text string) (string, int, api.Errno) {
	x, e := New(text)
	if e != api.OK {
		return "", 0, e
	}
	turned, mark := []byte{}, 0
	for _, at := range append([]int{len(text)}, x.order...) {
		if at == 0 {
			mark = len(turned)
		} else {
			turned = append(turned, text[at-1])
		}
	}
	return string(turned), mark, api.OK
}

// Restore returns the text with this turned text and mark. The last bytes of the rotations, sorted, are their first ones, and those that are equal keep their order; so the rotation that begins one byte later than another one, which ends with the first byte of that one, is the element of the sorted list at its place.
func Restore(turned string, mark int) (string, api.Errno) {
	if !isText(turned) || mark < 0 || mark > len(turned) {
		return "", api.ErrArg
	}
	rows := make([]int, len(turned)+1)
	for row := range rows {
		rows[row] = row
	}
	last := lastOf(turned, mark)
	next := sorted(rows, last)
	text := []byte{}
	row := mark
	for range len(turned) {
		row = next[row]
		if last(row) == end { // back at the beginning, before all rotations have been visited
			return "", api.ErrTurned
		}
		text = append(text, byteOf(last(row)))
	}
	return string(text), api.OK
}

// lastOf returns a function for the ranks of the last bytes of the rotations.
func lastOf(turned string, mark int) func(row int) int {
	return func(row int) int {
		switch {
		case row < mark:
			return rankOf(turned[row])
		case row > mark:
			return rankOf(turned[row-1])
		}
		return end
	}
}
