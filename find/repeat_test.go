package find_test

import (
	"math"
	"slices"
	"strings"
	"testing"

	"silverside/api"
)

// P7.2: the chapter's examples, and others whose answers are plain to see.
func TestRepeatExamples(t *testing.T) {
	for _, c := range []struct {
		text, repeated  string
		count, distinct int
	}{
		{"banana", "ana", 2, 15},
		{"aaaa", "aaa", 2, 4},
		{"aa", "a", 2, 2},
		{"abab", "ab", 2, 7},
		{"xbxaxbxax", "xbxax", 2, 29},
		{"bcabca", "bca", 2, 15},
		{"ba1ba2ab3ab4", "ab", 2, 70},
		{"\xff\x00\xff\x00", "\xff\x00", 2, 7},
		{"abcacbbac", "ac", 2, 38},
		{"cbacba1bc", "cba", 2, 37},
		{"abaca", "a", 3, 13},
		{"bbaabab", "ab", 2, 21},
	} {
		x := indexOf(t, c.text)
		if repeated, count, e := x.Repeat(); repeated != c.repeated || count != c.count || e != api.OK {
			t.Errorf("Repeat of %q: %q, %d, %d", c.text, repeated, count, e)
		}
		if distinct := x.Distinct(); distinct != c.distinct {
			t.Errorf("Distinct of %q: %d", c.text, distinct)
		}
	}
}

// repetition returns the longest string that occurs at two or more positions, and the number of its occurrences, or "" and 0.
func repetition(counts map[string]int) (string, int) {
	best, most := "", 0
	for part, count := range counts {
		if count >= 2 && (len(part) > len(best) || len(part) == len(best) && part < best) {
			best, most = part, count
		}
	}
	return best, most
}

// P7.2: small and medium texts against the counts of all their substrings.
func TestRepetitions(t *testing.T) {
	for _, text := range slices.Concat(smallTexts(), mediumTexts()) {
		x, counts := indexOf(t, text), occurrences(text)
		best, most := repetition(counts)
		want := api.OK
		if best == "" {
			want = api.ErrNone
		}
		if repeated, count, e := x.Repeat(); repeated != best || count != most || e != want {
			t.Errorf("Repeat of %q: %q, %d, %d, not %q, %d, %d", text, repeated, count, e, best, most, want)
		}
		if distinct := x.Distinct(); distinct != len(counts) {
			t.Errorf("Distinct of %q: %d, not %d", text, distinct, len(counts))
		}
		for at := range len(text) {
			checkShortest(t, text, at, func(part string) int { return counts[part] })
		}
	}
}

// checkShortest tries all strings that begin at a position.
func checkShortest(t *testing.T, text string, at int, count func(part string) int) {
	t.Helper()
	length, want := 0, api.ErrNone
	for to := at + 1; to <= len(text); to++ {
		if count(text[at:to]) == 1 {
			length, want = to-at, api.OK
			break
		}
	}
	if got, e := indexOf(t, text).Shortest(at); got != length || e != want {
		t.Errorf("Shortest(%d) of %q: %d, %d, not %d, %d", at, text, got, e, length, want)
	}
}

// P7.2: texts in which no byte occurs twice.
func TestNoRepetition(t *testing.T) {
	every := make([]byte, 256)
	for i := range every {
		every[i] = byte(i * 7)
	}
	for _, text := range []string{"", "a", "ab", "ba", "\x00\xff", string(every)} {
		x := indexOf(t, text)
		if repeated, count, e := x.Repeat(); repeated != "" || count != 0 || e != api.ErrNone {
			t.Errorf("Repeat of %q: %q, %d, %d", text, repeated, count, e)
		}
		if n := len(text); x.Distinct() != n*(n+1)/2 {
			t.Errorf("Distinct of %q: %d", text, x.Distinct())
		}
		for at := range len(text) {
			if length, e := x.Shortest(at); length != 1 || e != api.OK {
				t.Errorf("Shortest(%d) of %q: %d, %d", at, text, length, e)
			}
		}
	}
	if repeated, count, e := indexOf(t, string(every)+"a").Repeat(); repeated != "a" || count != 2 || e != api.OK {
		t.Errorf("Repeat: %q, %d, %d", repeated, count, e)
	}
}

// P7.2: large texts. By the definition, nothing longer than what Repeat returns is repeated, and nothing less of its length.
func TestRepetitionsOfLargeTexts(t *testing.T) {
	for _, text := range largeTexts() {
		x := indexOf(t, text)
		repeated, count, e := x.Repeat()
		if found := positions(text, repeated); e != api.OK || count != len(found) || count < 2 {
			t.Errorf("Repeat: %d bytes, %d times, %d; they occur at %v", len(repeated), count, e, found)
		}
		seen, longer := map[string]int{}, map[string]int{}
		for at := 0; at+len(repeated) <= len(text); at++ {
			part := text[at : at+len(repeated)]
			seen[part]++
			if seen[part] > 1 && part < repeated {
				t.Errorf("%q is repeated, and less than %q", part, repeated)
			}
			if at+len(repeated) < len(text) {
				longer[text[at:at+len(repeated)+1]]++
			}
		}
		for part, count := range longer {
			if count > 1 {
				t.Errorf("%q is repeated, and longer than %q", part, repeated)
			}
		}
	}
}

// P7.2: the shortest strings of large texts, at some of their positions.
func TestShortestOfLargeTexts(t *testing.T) {
	for _, text := range largeTexts() {
		x := indexOf(t, text)
		for _, at := range []int{0, 1, 2, len(text) / 2, len(text)/2 + 1, len(text) - 3, len(text) - 2, len(text) - 1} {
			length, e := x.Shortest(at)
			switch {
			case e == api.ErrNone && length == 0:
				if count := len(positions(text, text[at:])); count < 2 {
					t.Errorf("Shortest(%d) of %.20q: the suffix occurs nowhere else", at, text)
				}
			case e != api.OK || length < 1 || at+length > len(text):
				t.Errorf("Shortest(%d) of %.20q: %d, %d", at, text, length, e)
			default:
				if count := len(positions(text, text[at:at+length])); count != 1 {
					t.Errorf("Shortest(%d) of %.20q: %d, which is there %d times", at, text, length, count)
				}
				if count := len(positions(text, text[at:at+length-1])); count < 2 && length > 1 {
					t.Errorf("Shortest(%d) of %.20q: %d, but one byte less is there %d times", at, text, length, count)
				}
			}
		}
	}
}

// P7.2: large texts whose substrings can be counted by thinking.
func TestDistinctOfLargeTexts(t *testing.T) {
	for text, want := range map[string]int{
		strings.Repeat("a", longest):                                 4096,
		strings.Repeat("a", longest-1) + "b":                         4095 + 4096,
		strings.Repeat("ab", longest/2):                              2*4096 - 1,
		strings.Repeat("a", 2048) + strings.Repeat("b", 2048):        2048 + 2048 + 2048*2048,
		strings.Repeat("\x00", 2048) + strings.Repeat("\xff", 2048):  2048 + 2048 + 2048*2048,
		strings.Repeat("a", 2000) + "b" + strings.Repeat("a", 2000):  2000 + 2001*2001,
		strings.Repeat("z", 2000) + "\x80" + strings.Repeat("z", 90): 2000 + 2001*91,
	} {
		if distinct := indexOf(t, text).Distinct(); distinct != want {
			t.Errorf("Distinct of %.5q and so on: %d, not %d", text, distinct, want)
		}
	}
}

// P7.2: positions that are those of no suffix.
func TestShortestInvalid(t *testing.T) {
	for _, text := range []string{"", "a", "aa", "banana", strings.Repeat("a", longest)} {
		x := indexOf(t, text)
		for _, at := range []int{-1, -2, len(text), len(text) + 1, 1 << 32, math.MaxInt, math.MinInt} {
			if length, e := x.Shortest(at); length != 0 || e != api.ErrArg {
				t.Errorf("Shortest(%d) of %d bytes: %d, %d", at, len(text), length, e)
			}
		}
	}
}
