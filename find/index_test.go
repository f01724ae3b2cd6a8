package find_test

import (
	"math/rand"
	"slices"
	"strings"
	"testing"

	"silverside/api"
	"silverside/find"
)

// P7.1: the chapter's example.
func TestExample(t *testing.T) {
	x := indexOf(t, "banana")
	if got := x.Order(); !slices.Equal(got, []int{5, 3, 1, 0, 4, 2}) {
		t.Errorf("Order: %v", got)
	}
	if got := x.Overlaps(); !slices.Equal(got, []int{0, 1, 3, 0, 0, 2}) {
		t.Errorf("Overlaps: %v", got)
	}
	if got := x.Find("ana"); !slices.Equal(got, []int{1, 3}) {
		t.Errorf("Find: %v", got)
	}
	for pattern, want := range map[string]int{"": 6, "a": 3, "an": 2, "ana": 2, "anan": 1, "banana": 1, "bananas": 0, "nab": 0, "b": 1, "c": 0, "A": 0, "\xff": 0, "\x00": 0, "a\x00": 0, "na": 2, "aa": 0} {
		if got := x.Count(pattern); got != want {
			t.Errorf("Count of %q: %d", pattern, got)
		}
	}
}

// P7.1: the order and the overlaps of texts of all kinds.
func TestOrderAndOverlaps(t *testing.T) {
	for _, text := range slices.Concat(smallTexts(), mediumTexts(), largeTexts()) {
		checkLists(t, text)
	}
}

// P7.1: all lengths around the powers of 2.
func TestLengths(t *testing.T) {
	r := rand.New(rand.NewSource(73))
	for _, length := range []int{0, 1, 2, 3, 4, 5, 7, 8, 9, 15, 16, 17, 31, 32, 33, 63, 64, 65, 127, 128, 129, 255, 256, 257, 258, 511, 512, 513, 1023, 1024, 1025, 2047, 2048, 2049, 4095, 4096} {
		checkLists(t, strings.Repeat("x", length))
		checkLists(t, randomText(r, length, 2))
		checkLists(t, randomText(r, length, 256))
	}
	every := make([]byte, 256)
	for i := range every {
		every[i] = byte(255 - i)
	}
	checkLists(t, string(every))
	checkLists(t, strings.Repeat(string(every), 16))
}

// P7.1: all short patterns in all small texts.
func TestFindInSmallTexts(t *testing.T) {
	patterns := textsOver("ab", 5)
	for _, text := range textsOver("ab", 8) {
		x := indexOf(t, text)
		for _, pattern := range patterns {
			checkFind(t, x, pattern)
		}
	}
	patterns = textsOver("\x00\x7f\x80\xff", 3)
	for _, text := range textsOver("\x00\x7f\x80\xff", 4) {
		x := indexOf(t, text)
		for _, pattern := range patterns {
			checkFind(t, x, pattern)
		}
	}
}

// P7.1: patterns that occur, that go on behind the end, that differ in their last byte, and any others.
func TestFindInLargerTexts(t *testing.T) {
	r := rand.New(rand.NewSource(74))
	for _, text := range slices.Concat(mediumTexts(), largeTexts()) {
		x := indexOf(t, text)
		checkFind(t, x, "")
		checkFind(t, x, text)
		checkFind(t, x, text+"\x00")
		for range 8 {
			from := r.Intn(len(text) + 1)
			part := text[from : from+r.Intn(len(text)-from+1)]
			checkFind(t, x, part)
			checkFind(t, x, part[:min(len(part), 1+r.Intn(4))])
			checkFind(t, x, part+"\x00")
			checkFind(t, x, part+"\xff")
			checkFind(t, x, text[from:])
			checkFind(t, x, text[from:]+text[:from])
			checkFind(t, x, randomText(r, r.Intn(4), 256))
		}
	}
}

// P7.1: a pattern may be much longer than a text.
func TestFindLongPatterns(t *testing.T) {
	long := strings.Repeat("a", 1<<22)
	for _, text := range []string{"", "a", strings.Repeat("a", longest), "b", strings.Repeat("a", longest-1) + "b"} {
		x := indexOf(t, text)
		checkFind(t, x, long)
		checkFind(t, x, long[:longest+1])
		checkFind(t, x, long[:longest])
		checkFind(t, x, long[:longest-1])
	}
}

// P7.1: what is too long has the index of the empty text beside the error.
func TestTooLong(t *testing.T) {
	for _, length := range []int{longest + 1, longest + 2, 2 * longest, 1 << 22} {
		x, e := find.New(strings.Repeat("ab", length)[:length])
		if e != api.ErrArg {
			t.Errorf("New of %d bytes: %d", length, e)
		}
		checkEmpty(t, x)
	}
}

// The zero value is the index of the empty text.
func TestEmpty(t *testing.T) {
	checkEmpty(t, find.Index{})
	checkEmpty(t, indexOf(t, ""))
	var x find.Index
	checkEmpty(t, x)
}

func checkEmpty(t *testing.T, x find.Index) {
	t.Helper()
	if x.Text() != "" || len(x.Order()) != 0 || len(x.Overlaps()) != 0 || x.Distinct() != 0 {
		t.Errorf("%q, %v, %v, %d", x.Text(), x.Order(), x.Overlaps(), x.Distinct())
	}
	for _, pattern := range []string{"", "a", "\x00", strings.Repeat("a", longest+1)} {
		checkFind(t, x, pattern)
	}
	if repeated, count, e := x.Repeat(); repeated != "" || count != 0 || e != api.ErrNone {
		t.Errorf("Repeat: %q, %d, %d", repeated, count, e)
	}
	for _, at := range []int{-1, 0, 1} {
		if length, e := x.Shortest(at); length != 0 || e != api.ErrArg {
			t.Errorf("Shortest(%d): %d, %d", at, length, e)
		}
	}
}

// Rule 5: a result shares its memory neither with the index nor with another result.
func TestResultsAreNew(t *testing.T) {
	x := indexOf(t, "banana")
	twin := x
	for _, list := range []func() []int{x.Order, x.Overlaps, func() []int { return x.Find("") }, func() []int { return x.Find("a") }} {
		spoiled, other := list(), list()
		want := slices.Clone(other)
		for i := range spoiled {
			spoiled[i] = -1
		}
		if !slices.Equal(other, want) || !slices.Equal(list(), want) {
			t.Errorf("%v became %v, and is %v now", want, other, list())
		}
	}
	for _, y := range []find.Index{x, twin} {
		if !slices.Equal(y.Order(), orderOf("banana")) || !slices.Equal(y.Overlaps(), overlapsOf("banana")) {
			t.Errorf("%v, %v", y.Order(), y.Overlaps())
		}
		checkFind(t, y, "")
		checkFind(t, y, "an")
	}
}

// P2: several callers may use an index, and make others, at the same time.
func TestManyAtTheSameTime(t *testing.T) {
	x := indexOf(t, fibonacci(longest))
	want, counted := x.Order(), x.Count("aab")
	done := make(chan bool)
	for range 8 {
		go func() {
			y, e := find.New(fibonacci(longest))
			done <- e == api.OK && slices.Equal(y.Order(), want) && slices.Equal(x.Order(), want) && x.Count("aab") == counted
		}()
	}
	for range 8 {
		if !<-done {
			t.Error("another result")
		}
	}
}

// P7.5: the order contains each position once, the suffixes ascend in it, and those that begin with a pattern stand side by side. The overlaps add up to the number of all substrings minus that of the distinct ones.
func TestProperties(t *testing.T) {
	for _, text := range slices.Concat(smallTexts(), mediumTexts(), largeTexts()) {
		x := indexOf(t, text)
		order, n := x.Order(), len(text)
		for i := 1; i < len(order); i++ {
			if text[order[i-1]:] >= text[order[i]:] {
				t.Errorf("%q: the suffixes at %d and %d", text, order[i-1], order[i])
			}
		}
		all := slices.Sorted(slices.Values(order))
		if !slices.Equal(all, positions(text, "")) {
			t.Errorf("%q: %v", text, order)
		}
		sum := 0
		for _, overlap := range x.Overlaps() {
			sum += overlap
		}
		if sum != n*(n+1)/2-x.Distinct() {
			t.Errorf("%q: the overlaps add up to %d, Distinct is %d", text, sum, x.Distinct())
		}
		checkSideBySide(t, x, order)
	}
}

func checkSideBySide(t *testing.T, x find.Index, order []int) {
	t.Helper()
	text := x.Text()
	for _, length := range []int{1, 2, 3, 7} {
		if length > len(text) {
			continue
		}
		found := x.Find(text[:length])
		first := slices.IndexFunc(order, func(at int) bool { return slices.Contains(found, at) })
		if first < 0 || first+len(found) > len(order) {
			t.Fatalf("%q: %v, %v", text, found, order)
		}
		if group := slices.Sorted(slices.Values(order[first : first+len(found)])); !slices.Equal(group, found) {
			t.Errorf("%q: %v stand together, but %v begin with %q", text, group, found, text[:length])
		}
	}
}
