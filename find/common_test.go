package find_test

import (
	"math/rand"
	"slices"
	"strings"
	"testing"

	"silverside/api"
	"silverside/find"
)

// checkCommon checks one result of Common.
func checkCommon(t *testing.T, a, b string, length, inA, inB int, e api.Errno) {
	t.Helper()
	gotLength, gotA, gotB, got := find.Common(a, b)
	if gotLength != length || gotA != inA || gotB != inB || got != e {
		t.Errorf("Common(%.60q, %.60q) = %d, %d, %d, %d, not %d, %d, %d, %d", a, b, gotLength, gotA, gotB, got, length, inA, inB, e)
	}
}

// longestCommon tries all positions in both texts, in ascending order.
func longestCommon(a, b string) (length, inA, inB int) {
	for i := range len(a) {
		for j := range len(b) {
			if n := shared(a[i:], b[j:]); n > length {
				length, inA, inB = n, i, j
			}
		}
	}
	return length, inA, inB
}

// P7.3: the chapter's example, and others of which string, and which position of it, is taken.
func TestCommonExamples(t *testing.T) {
	checkCommon(t, "xabcx", "yabcab", 3, 1, 1, api.OK)
	checkCommon(t, "abxcd", "cdyab", 2, 0, 3, api.OK)
	checkCommon(t, "cdxab", "abycd", 2, 0, 3, api.OK)
	checkCommon(t, "abab", "xababab", 4, 0, 1, api.OK)
	checkCommon(t, "xab", "abab", 2, 1, 0, api.OK)
	checkCommon(t, "aab", "baa", 2, 0, 1, api.OK)
	checkCommon(t, "ab", "ba", 1, 0, 1, api.OK)
	checkCommon(t, "axbxc", "cb", 1, 2, 1, api.OK)
	checkCommon(t, "abc", "abc", 3, 0, 0, api.OK)
	checkCommon(t, "abc", "xyz", 0, 0, 0, api.OK)
	checkCommon(t, "abc", "ABC", 0, 0, 0, api.OK)
	checkCommon(t, "", "", 0, 0, 0, api.OK)
	checkCommon(t, "a", "", 0, 0, 0, api.OK)
	checkCommon(t, "", "a", 0, 0, 0, api.OK)
	checkCommon(t, "\x00\xff", "\xff\x00", 1, 0, 1, api.OK)
}

// P7.3: all pairs of small texts.
func TestCommonOfSmallTexts(t *testing.T) {
	for _, texts := range [][]string{textsOver("ab", 5), textsOver("\x00\x80\xff", 3)} {
		for _, a := range texts {
			for _, b := range texts {
				length, inA, inB := longestCommon(a, b)
				checkCommon(t, a, b, length, inA, inB, api.OK)
			}
		}
	}
}

// P7.3: texts of a few letters, and texts that have a part in common.
func TestCommonOfLargerTexts(t *testing.T) {
	r := rand.New(rand.NewSource(75))
	for range 2000 {
		letters := 1 + r.Intn(4)
		a, b := randomText(r, r.Intn(40), letters), randomText(r, r.Intn(40), letters)
		if r.Intn(2) == 0 {
			part := randomText(r, r.Intn(12), 1+r.Intn(3))
			from, to := r.Intn(len(a)+1), r.Intn(len(b)+1)
			a, b = a[:from]+part+a[from:], b[:to]+part+b[to:]
		}
		length, inA, inB := longestCommon(a, b)
		checkCommon(t, a, b, length, inA, inB, api.OK)
		length, inA, inB = longestCommon(b, a)
		checkCommon(t, b, a, length, inA, inB, api.OK)
	}
}

// P7.3: two texts as long as they may be.
func TestCommonOfLargeTexts(t *testing.T) {
	many := strings.Repeat("a", longest)
	checkCommon(t, many, many, longest, 0, 0, api.OK)
	checkCommon(t, many, "b"+many[1:], longest-1, 0, 1, api.OK)
	checkCommon(t, "b"+many[1:], many, longest-1, 1, 0, api.OK)
	checkCommon(t, many[1:]+"b", many, longest-1, 0, 0, api.OK)
	checkCommon(t, many, strings.Repeat("b", longest), 0, 0, 0, api.OK)
	checkCommon(t, strings.Repeat("ab", longest/2), strings.Repeat("ba", longest/2), longest-1, 0, 1, api.OK)
	r := rand.New(rand.NewSource(76))
	part := randomText(r, 500, 256)
	a, b := randomText(r, longest, 256), randomText(r, longest, 256)
	checkCommon(t, a[:3000]+part+a[3500:], b[:77]+part+b[577:], 500, 3000, 77, api.OK)
	checkCommon(t, a[:3596]+part, part+b[500:], 500, 3596, 0, api.OK)
	checkCommon(t, part+a[500:], b[:3596]+part, 500, 0, 3596, api.OK)
	for _, letters := range []int{2, 3, 256} {
		a, b := randomText(r, 1500, letters), randomText(r, 1500, letters)
		length, inA, inB := longestCommon(a, b)
		checkCommon(t, a, b, length, inA, inB, api.OK)
	}
}

// P7.3: one or both of the texts are too long.
func TestCommonTooLong(t *testing.T) {
	texts := []string{"", "a", strings.Repeat("a", longest), strings.Repeat("a", longest+1), strings.Repeat("a", 1<<22)}
	for _, a := range texts {
		for _, b := range texts {
			if len(a) > longest || len(b) > longest {
				checkCommon(t, a, b, 0, 0, 0, api.ErrArg)
			}
		}
	}
}

// P7.3: Common finds what Repeat finds, where two texts have no other repetition than the one they share.
func TestCommonAndRepeat(t *testing.T) {
	r := rand.New(rand.NewSource(77))
	letters := r.Perm(250)
	a, b := []byte{}, []byte{}
	for i, letter := range letters {
		if i < 140 {
			a = append(a, byte(letter))
		}
		if i >= 120 {
			b = append(b, byte(letter))
		}
	}
	repeated, count, e := indexOf(t, string(slices.Concat(a, []byte{255}, b))).Repeat()
	if repeated != string(a[120:]) || count != 2 || e != api.OK {
		t.Errorf("Repeat: %q, %d, %d", repeated, count, e)
	}
	checkCommon(t, string(a), string(b), 20, 120, 0, api.OK)
	checkCommon(t, string(b), string(a), 20, 0, 120, api.OK)
}
