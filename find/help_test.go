package find_test

import (
	"math/rand"
	"slices"
	"sort"
	"strings"
	"testing"

	"silverside/api"
	"silverside/find"
)

const longest = 4096 // the chapter's limit of a text

// indexOf returns the index of a text that is not too long.
func indexOf(t *testing.T, text string) find.Index {
	t.Helper()
	x, e := find.New(text)
	if e != api.OK || x.Text() != text {
		t.Fatalf("New(%q): %q, %d", text, x.Text(), e)
	}
	return x
}

// textsOver returns all texts of at most so many of these bytes.
func textsOver(letters string, length int) []string {
	all := []string{""}
	for from := 0; length > 0; length-- {
		to := len(all)
		for _, text := range all[from:to] {
			for i := range len(letters) {
				all = append(all, text+letters[i:i+1])
			}
		}
		from = to
	}
	return all
}

// smallTexts are all texts of a few letters up to some length. The letters are those that are least, greatest, and beside the middle of all bytes, where signed numbers would be in another order.
func smallTexts() []string {
	return slices.Concat(textsOver("ab", 9), textsOver("\x00\xff", 6), textsOver("a\x7f\x80", 5), textsOver("\x00\x01\x80\xff", 4))
}

// randomText returns a text of so many bytes, of which there are so many different ones.
func randomText(r *rand.Rand, length, letters int) string {
	text := make([]byte, length)
	first := r.Intn(257 - letters)
	for i := range text {
		text[i] = byte(first + r.Intn(letters))
	}
	return string(text)
}

// fibonacci returns the beginning of a text in which much is repeated.
func fibonacci(length int) string {
	a, b := "a", "ab"
	for len(b) < length {
		a, b = b, b+a
	}
	return b[:length]
}

// mediumTexts are random and repetitive texts of up to 60 bytes.
func mediumTexts() []string {
	r := rand.New(rand.NewSource(71))
	list := []string{"banana", "mississippi", fibonacci(60), strings.Repeat("a", 60), strings.Repeat("abc", 20), strings.Repeat("ab", 20) + "a"}
	for range 300 {
		list = append(list, randomText(r, r.Intn(60), 1+r.Intn(4)), randomText(r, r.Intn(60), 256))
		part := randomText(r, 1+r.Intn(12), 2)
		list = append(list, strings.Repeat(part, 4)+part[:r.Intn(len(part))])
	}
	return list
}

// largeTexts are texts of about as many bytes as there may be.
func largeTexts() []string {
	r := rand.New(rand.NewSource(72))
	half := randomText(r, longest/2, 256)
	return []string{
		strings.Repeat("a", longest),
		strings.Repeat("\xff", longest),
		strings.Repeat("\x00", longest-1) + "\x01",
		"b" + strings.Repeat("a", longest-1),
		strings.Repeat("a", longest/2) + "b" + strings.Repeat("a", longest/2-1),
		strings.Repeat("ba", longest/2),
		strings.Repeat("abcab", longest/5),
		fibonacci(longest),
		half + half,
		randomText(r, longest, 2),
		randomText(r, longest-1, 3),
		randomText(r, longest, 256),
		randomText(r, 2049, 4),
	}
}

// positions returns where a pattern occurs in a text, by trying all positions.
func positions(text, pattern string) []int {
	list := []int{}
	for at := range len(text) {
		if strings.HasPrefix(text[at:], pattern) {
			list = append(list, at)
		}
	}
	return list
}

// orderOf sorts the suffixes as strings.
func orderOf(text string) []int {
	list := positions(text, "")
	sort.Slice(list, func(i, j int) bool { return text[list[i]:] < text[list[j]:] })
	return list
}

// shared returns the number of bytes that two strings begin with in common.
func shared(a, b string) int {
	for i := range min(len(a), len(b)) {
		if a[i] != b[i] {
			return i
		}
	}
	return min(len(a), len(b))
}

// overlapsOf compares the suffixes that are neighbours in the order.
func overlapsOf(text string) []int {
	order := orderOf(text)
	list := make([]int, len(order))
	for i := 1; i < len(order); i++ {
		list[i] = shared(text[order[i-1]:], text[order[i]:])
	}
	return list
}

// occurrences counts how often each string, other than the empty one, occurs in a text.
func occurrences(text string) map[string]int {
	counts := map[string]int{}
	for from := range len(text) {
		for to := from + 1; to <= len(text); to++ {
			counts[text[from:to]]++
		}
	}
	return counts
}

// checkLists checks Order and Overlaps.
func checkLists(t *testing.T, text string) {
	t.Helper()
	x := indexOf(t, text)
	if got := x.Order(); !slices.Equal(got, orderOf(text)) {
		t.Errorf("Order of %q: %v", text, got)
	}
	if got := x.Overlaps(); !slices.Equal(got, overlapsOf(text)) {
		t.Errorf("Overlaps of %q: %v", text, got)
	}
}

// checkFind checks Find and Count of one pattern.
func checkFind(t *testing.T, x find.Index, pattern string) {
	t.Helper()
	want := positions(x.Text(), pattern)
	if got := x.Find(pattern); !slices.Equal(got, want) {
		t.Errorf("Find of %q in %q: %v, not %v", pattern, x.Text(), got, want)
	}
	if got := x.Count(pattern); got != len(want) {
		t.Errorf("Count of %q in %q: %d, not %d", pattern, x.Text(), got, len(want))
	}
}
