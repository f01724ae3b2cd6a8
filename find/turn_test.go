package find_test

import (
	"math"
	"math/rand"
	"slices"
	"sort"
	"strings"
	"testing"

	"silverside/api"
	"silverside/find"
)

// turnedOf sorts the rotations of a text with an end mark, which is 0, while each byte is a number greater by 1 than its value.
func turnedOf(text string) (string, int) {
	marked := []int{}
	for i := range len(text) {
		marked = append(marked, int(text[i])+1)
	}
	marked = append(marked, 0)
	rotations := [][]int{}
	for i := range marked {
		rotations = append(rotations, slices.Concat(marked[i:], marked[:i]))
	}
	sort.Slice(rotations, func(i, j int) bool { return slices.Compare(rotations[i], rotations[j]) < 0 })
	turned, mark := []byte{}, 0
	for i, rotation := range rotations {
		if last := rotation[len(text)]; last == 0 {
			mark = i
		} else {
			turned = append(turned, byte(last-1))
		}
	}
	return string(turned), mark
}

// checkTurn checks one result of Turn.
func checkTurn(t *testing.T, text, turned string, mark int, e api.Errno) {
	t.Helper()
	if gotTurned, gotMark, got := find.Turn(text); gotTurned != turned || gotMark != mark || got != e {
		t.Errorf("Turn(%.60q) = %.60q, %d, %d, not %.60q, %d, %d", text, gotTurned, gotMark, got, turned, mark, e)
	}
}

// checkRestore checks one result of Restore.
func checkRestore(t *testing.T, turned string, mark int, text string, e api.Errno) {
	t.Helper()
	if gotText, got := find.Restore(turned, mark); gotText != text || got != e {
		t.Errorf("Restore(%.60q, %d) = %.60q, %d, not %.60q, %d", turned, mark, gotText, got, text, e)
	}
}

// P7.4: the chapter's example, and the smallest texts.
func TestTurnExamples(t *testing.T) {
	for _, c := range []struct {
		text, turned string
		mark         int
	}{
		{"banana", "annbaa", 4},
		{"", "", 0},
		{"a", "a", 1},
		{"\x00", "\x00", 1},
		{"\xff", "\xff", 1},
		{"ab", "ba", 1},
		{"ba", "ab", 2},
		{"aa", "aa", 2},
		{"\x00\x80", "\x80\x00", 1},
		{"\x80\x00", "\x00\x80", 2},
		{"aaab", "baaa", 1},
		{"abracadabra", "ardrcaaaabb", 3},
	} {
		checkTurn(t, c.text, c.turned, c.mark, api.OK)
		checkRestore(t, c.turned, c.mark, c.text, api.OK)
	}
}

// P7.4 and P7.5: texts of all kinds by the definition, and back again.
func TestTurnAndRestore(t *testing.T) {
	r := rand.New(rand.NewSource(78))
	texts := slices.Concat(smallTexts(), mediumTexts())
	for range 20 {
		texts = append(texts, randomText(r, r.Intn(400), 1+r.Intn(5)), randomText(r, r.Intn(400), 256))
	}
	for _, text := range texts {
		turned, mark := turnedOf(text)
		checkTurn(t, text, turned, mark, api.OK)
		checkRestore(t, turned, mark, text, api.OK)
	}
}

// P7.4 and P7.5: texts as long as they may be. The rotation that begins at a position is in the order of the suffix there, behind the one that begins with the end mark.
func TestTurnLargeTexts(t *testing.T) {
	for _, text := range largeTexts() {
		turned, mark := text[len(text)-1:], 0
		for place, at := range orderOf(text) {
			if at == 0 {
				mark = place + 1
			} else {
				turned += text[at-1 : at]
			}
		}
		checkTurn(t, text, turned, mark, api.OK)
		checkRestore(t, turned, mark, text, api.OK)
	}
}

// P7.4: each turned text with each mark, where all texts are known that have one.
func TestRestoreAll(t *testing.T) {
	type pair struct {
		turned string
		mark   int
	}
	for _, texts := range [][]string{textsOver("ab", 9), textsOver("\x00\x80\xff", 6), textsOver("\x00\x01\xfe\xff", 5)} {
		known := map[pair]string{}
		for _, text := range texts {
			turned, mark := turnedOf(text)
			known[pair{turned, mark}] = text
		}
		if len(known) != len(texts) {
			t.Errorf("%d texts have %d turned texts", len(texts), len(known))
		}
		for _, turned := range texts {
			for mark := range len(turned) + 1 {
				if text, isKnown := known[pair{turned, mark}]; isKnown {
					checkRestore(t, turned, mark, text, api.OK)
				} else {
					checkRestore(t, turned, mark, "", api.ErrTurned)
				}
			}
		}
	}
}

// P7.4: long texts that no text is turned into: a text is restored only with its mark.
func TestRestoreWithOtherMarks(t *testing.T) {
	r := rand.New(rand.NewSource(79))
	for _, length := range []int{1, 5, 60, 600, longest} {
		for _, letters := range []int{1, 2, 256} {
			text := randomText(r, length, letters)
			turned, mark, _ := find.Turn(text)
			for range 20 {
				other := r.Intn(length + 1)
				got, e := find.Restore(turned, other)
				if e == api.ErrTurned && got == "" && other != mark {
					continue
				}
				if e != api.OK || (got == text) != (other == mark) {
					t.Errorf("Restore of %d bytes with %d in the place of %d: %.60q, %d", length, other, mark, got, e)
				}
				checkTurn(t, got, turned, other, api.OK)
			}
			checkRestore(t, turned, 0, "", api.ErrTurned)
		}
	}
}

// P7.4: any bytes, of which few are those of a turned text.
func TestRestoreAnyBytes(t *testing.T) {
	r := rand.New(rand.NewSource(80))
	counts := map[api.Errno]int{}
	for range 3000 {
		turned := randomText(r, 1+r.Intn(30), 1+r.Intn(4))
		mark := r.Intn(len(turned) + 1)
		text, e := find.Restore(turned, mark)
		counts[e]++
		if e == api.OK {
			checkTurn(t, text, turned, mark, api.OK)
		} else if e != api.ErrTurned || text != "" {
			t.Errorf("Restore(%q, %d) = %q, %d", turned, mark, text, e)
		}
	}
	if counts[api.OK] < 100 || counts[api.ErrTurned] < 1000 {
		t.Errorf("%v", counts)
	}
}

// P7.4: the examples of ErrTurned, and a cycle that is shorter by one rotation.
func TestRestoreTurned(t *testing.T) {
	checkRestore(t, "a", 0, "", api.ErrTurned)
	checkRestore(t, "ab", 0, "", api.ErrTurned)
	checkRestore(t, "ab", 1, "", api.ErrTurned)
	checkRestore(t, "ba", 2, "", api.ErrTurned)
	checkRestore(t, "aa", 1, "", api.ErrTurned)
	checkRestore(t, "annbaa", 3, "", api.ErrTurned)
	checkRestore(t, strings.Repeat("a", longest), longest-1, "", api.ErrTurned)
	checkRestore(t, strings.Repeat("a", longest), longest, strings.Repeat("a", longest), api.OK)
}

// P7.4: invalid arguments come before what is no turned text.
func TestTurnInvalid(t *testing.T) {
	for _, length := range []int{longest + 1, 2 * longest, 1 << 22} {
		long := strings.Repeat("a", length)
		checkTurn(t, long, "", 0, api.ErrArg)
		for _, mark := range []int{0, 1, longest, length, length + 1, -1} {
			checkRestore(t, long, mark, "", api.ErrArg)
		}
	}
	for _, turned := range []string{"", "a", "ab", "annbaa", strings.Repeat("a", longest)} {
		for _, mark := range []int{-1, -2, len(turned) + 1, len(turned) + 2, 1 << 32, math.MaxInt, math.MinInt} {
			checkRestore(t, turned, mark, "", api.ErrArg)
		}
	}
}
