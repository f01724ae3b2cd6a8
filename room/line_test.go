package room_test

import (
	"slices"
	"strings"
	"testing"

	"silverside/api"
)

// shapes are all acts with their arguments: n is a number text, p two and b three of them with colons between, k a token, h hexadecimal, r the rest of the line; a star stands behind what may be repeated, or left out.
const shapes = `
outline p p p p*
touch n p
apart n n
carve n n b*
label r
scan h n*
job n n n
plan
benches
done n
begin n p p*
cancel n n
deliver n
repeat n
lose n
tick n
crash n
start n
def k r
ask n r
price n n k p*
open
get n k
put n k n
add n k n
remove n k
list n k k
commit n
abort n
find r
`

// rightTexts returns texts of a kind of argument.
func rightTexts(kind string) []string {
	switch kind[:1] {
	case "n":
		return []string{"0", "1", "-1", "10", "-203", "9223372036854775807", "-9223372036854775808"}
	case "p":
		return []string{"0:0", "-1:20", "9223372036854775807:-9223372036854775808"}
	case "b":
		return []string{"1:1:1", "0:-1:9223372036854775807"}
	case "k":
		return []string{"k", "!", "~", "-", "1:2", strings.Repeat("k", longestToken)}
	case "h":
		return []string{"00", "ff", "0123456789abcdef"}
	}
	return []string{"1", " ", "x y  z ", "\x00\r\t\x7f\xff", "-> ä"}
}

// wrongTexts returns texts that are not of a kind of argument, whatever follows.
func wrongTexts(kind string) []string {
	numbers := []string{"", "x", "+1", "01", "00", "-01", "-0", "--1", "-", "1.", "1.0", "1e3", "0x1", "1_0", "1x", "x1", "1\t", "\t1", "1\r", "9223372036854775808", "-9223372036854775809", "99999999999999999999", "\xd9\xa1", "k"}
	switch kind[:1] {
	case "n":
		return append(numbers, "1:1", ":", "1,")
	case "p":
		return around(numbers, "1:%", "%:1", "1", ":", "1:1:1", "1:1:", ":1:1", "1::1", "1;1")
	case "b":
		return around(numbers, "1:1:%", "1:%:1", "%:1:1", "1:1", "1", "::", "1:1:1:1", "1:1:1:", "1:1::1")
	case "k":
		return []string{"", strings.Repeat("k", longestToken+1), "a\tb", "\x1f", "\x00", "\x7f", "\x80", "\xff", "ä", "a\r"}
	case "h":
		return []string{"", "0", "000", "0g", "g0", "0A", "A0", "FF", "0x00", "-1", "0 0", "00:00", "\x00\x00"}
	}
	return []string{""}
}

// around puts texts in the places that are marked in the patterns.
func around(texts []string, patterns ...string) []string {
	var all []string
	for _, pattern := range patterns {
		if !strings.Contains(pattern, "%") {
			all = append(all, pattern)
			continue
		}
		for _, text := range texts {
			all = append(all, strings.Replace(pattern, "%", text, 1))
		}
	}
	return all
}

// act is a word with the kinds of its arguments.
type act struct {
	word  string
	kinds []string
}

func allActs() []act {
	var acts []act
	for _, line := range strings.Split(strings.TrimSpace(shapes), "\n") {
		fields := strings.Fields(line)
		acts = append(acts, act{fields[0], fields[1:]})
	}
	return acts
}

// line writes an act with arguments.
func (a act) line(arguments ...string) string {
	return strings.Join(append([]string{a.word}, arguments...), " ")
}

// needed returns arguments, each one a right text, for those kinds that may not be left out.
func (a act) needed() []string {
	var texts []string
	for _, kind := range a.kinds {
		if !strings.HasSuffix(kind, "*") {
			texts = append(texts, rightTexts(kind)[0])
		}
	}
	return texts
}

func (a act) endsWith(kind string) bool {
	last := len(a.kinds) - 1
	return last >= 0 && strings.HasSuffix(a.kinds[last], kind)
}

// with returns arguments of which one is replaced, or added at the end.
func with(arguments []string, at int, text string) []string {
	return append(slices.Clone(arguments[:at]), append([]string{text}, arguments[min(at+1, len(arguments)):]...)...)
}

func checkIsSyntax(t *testing.T, line string) {
	t.Helper()
	r := roomOf(t, plant())
	if result, e := r.Do(line); result != "" || e != api.ErrSyntax {
		t.Errorf("%q: %q, %d", line, result, e)
	}
	if r.Trace() != "" || r.Text() != roomOf(t, plant()).Text() {
		t.Errorf("%q: %q", line, r.Text())
	}
}

// TestWrongLines makes lines with one fault each.
func TestWrongLines(t *testing.T) {
	for _, a := range allActs() {
		right := a.needed()
		for i, kind := range a.kinds {
			for _, text := range wrongTexts(kind) {
				checkIsSyntax(t, a.line(with(right, i, text)...))
			}
		}
		for i := range right {
			checkIsSyntax(t, a.line(right[:i]...)) // too short
		}
		if !a.endsWith("r") {
			checkIsSyntax(t, a.line(right...)+" ")
			checkIsSyntax(t, a.line(right...)+" x y")
			checkIsSyntax(t, strings.Replace(a.line(right...)+" ", " ", "  ", 1))
		}
		if !a.endsWith("*") && !a.endsWith("r") {
			checkIsSyntax(t, a.line(append(right, "1")...))
		}
		for _, word := range []string{" " + a.word, strings.ToUpper(a.word), a.word + "s", a.word[1:], a.word + "\t", a.word + ":"} {
			checkIsSyntax(t, act{word, nil}.line(right...))
		}
		checkIsSyntax(t, a.line(right...)+"\n")
		checkIsSyntax(t, "\n"+a.line(right...))
	}
	for _, line := range []string{"", " ", "  ", "nothing", "\x00", "1", "plan\r", "find a\nplan", "label \n", "ask 1 (+ 1\n1)"} {
		checkIsSyntax(t, line)
	}
}

// TestRightLines makes lines that are acts, whatever they return. The two that read rules may return ErrSyntax for these.
func TestRightLines(t *testing.T) {
	for _, a := range allActs() {
		if a.word == "def" || a.word == "ask" {
			continue
		}
		for i, kind := range a.kinds {
			for _, text := range rightTexts(kind) {
				arguments := with(a.needed(), i, text)
				if strings.HasSuffix(kind, "*") {
					arguments = append(arguments, text, rightTexts(kind)[0])
				}
				line := a.line(arguments...)
				if _, e := roomOf(t, plant()).Do(line); e == api.ErrSyntax {
					t.Errorf("%q: %d", line, e)
				}
			}
		}
	}
	talk(t, roomOf(t, plant()), "ask 9   ( +  1 1)  -> ask int : 2\ndef x   2  -> def int\nask -1 1 -> error 2\nask -1 1 1 -> error 4")
}

func TestLongestLine(t *testing.T) {
	r := roomOf(t, plant())
	say(t, r, "find "+strings.Repeat("a", longestLine-5), "find 0")
	say(t, r, "find "+strings.Repeat("a", longestLine-4), "error 4")
	say(t, r, "label "+strings.Repeat("a", longestLine-6), "error 2")
	say(t, r, "label "+strings.Repeat("a", longestLine-5), "error 4")
	say(t, r, "begin 0 0:1"+strings.Repeat(" 0:1", 300), "error 4") // its arguments would be ErrArg
	say(t, r, strings.Repeat("a", 1<<20), "error 4")
}

func TestTrace(t *testing.T) {
	r := roomOf(t, plant())
	first := "find first"                       // 11 bytes of the trace, with the line feed
	second := "find " + strings.Repeat("b", 94) // 100
	third := "find " + strings.Repeat("c", 991) // 997
	fourth := "find " + strings.Repeat("d", 991)
	fifth := "find " + strings.Repeat("e", 991)
	last := "find " + strings.Repeat("f", longestTrace-11-100-3*997-6)
	for _, line := range []string{first, second, third, fourth, fifth, last} {
		say(t, r, line, "find 0")
	}
	if len(r.Trace()) != longestTrace || !strings.HasPrefix(r.Trace(), first+"\n") {
		t.Fatalf("trace of %d bytes", len(r.Trace()))
	}
	say(t, r, "plan 1", "error 4")
	say(t, r, "tick 7", "error 3")
	if len(r.Trace()) != longestTrace {
		t.Fatalf("trace of %d bytes", len(r.Trace()))
	}
	say(t, r, "plan", "plan 1") // needs 5 bytes, and takes the whole first line away
	if want := longestTrace - 11 + 5; len(r.Trace()) != want || !strings.HasPrefix(r.Trace(), second+"\n") {
		t.Errorf("trace of %d bytes, not %d", len(r.Trace()), want)
	}
	say(t, r, third, "find 1") // takes two lines away, of which it is one itself
	if want := fourth + "\n" + fifth + "\n" + last + "\nplan\n" + third + "\n"; r.Trace() != want {
		t.Errorf("trace %q", r.Trace())
	}
}
