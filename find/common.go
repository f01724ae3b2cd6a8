package find

import (
	"silverside/api"
)

// Common returns the length of the longest string that occurs in both texts, and its first positions in them. Only strings that are longer than the longest one so far are looked for, so that each search either moves on in a or adds a byte.
func Common(a, b string) (int, int, int, api.Errno) {
	if !isText(a) || !isText(b) {
		return 0, 0, 0, api.ErrArg
	}
	x, _ := New(b)
	length, first := 0, 0
	for at := range len(a) {
		for at+length < len(a) && x.Count(a[at:at+length+1]) > 0 {
			length++
			first = at
		}
	}
	if length == 0 {
		return 0, 0, 0, api.OK
	}
	return length, first, x.Find(a[first : first+length])[0], api.OK
}
