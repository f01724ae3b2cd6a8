package room_test

import (
	"strings"
	"testing"

	"silverside/api"
	"silverside/room"
)

func TestText(t *testing.T) {
	r := busy(t)
	want := `outline 0:0 4:0 4:4 0:4
outline 9:9 9:8 -8:-8
job 0 4 2
job 1 3 2
site 10 1
site 0 0
letter 0 0 1 1 -4
letter 0 1 1 1 4
def twice (fn int int)
def both (fn a (pair a a))
version 2
item pieces 1
item worth 12
item ~ -7
open 1
trace 189
`
	if got := r.Text(); got != want {
		t.Errorf("Text: %s, not %s", got, want)
	}
	if len(r.Trace()) != 189 {
		t.Errorf("trace of %d bytes", len(r.Trace()))
	}
}

func TestSay(t *testing.T) {
	r := roomOf(t, plant())
	for _, c := range []struct {
		line, result string
		e            api.Errno
	}{
		{"label a", "label 61a3c2", api.OK},
		{"open", "open 1", api.OK},
		{"done 0", "", api.ErrNone},
		{"tick 5", "", api.ErrRange},
		{"start 0", "", api.ErrState},
		{"", "", api.ErrSyntax},
	} {
		if got, e := r.Do(c.line); got != c.result || e != c.e {
			t.Errorf("Do(%q): %q, %d", c.line, got, e)
		}
	}
	for line, want := range map[string]string{"label a": "label 61a3c2\n", "done 0": "error 6\n", "tick 5": "error 3\n", "": "error 4\n", "plan\n": "error 4\n", "ask 1 x": "error 60\n"} {
		if got := r.Say(line); got != want {
			t.Errorf("Say(%q): %q", line, got)
		}
	}
	if want := "label a\nopen\nlabel a\n"; r.Trace() != want {
		t.Errorf("Trace: %q, not %q", r.Trace(), want)
	}
}

func TestPlay(t *testing.T) {
	long := strings.Repeat("a", longestLine+1)
	for text, want := range map[string]string{
		"":                                       "",
		"\n":                                     "",
		"\n\n\n":                                 "",
		"plan":                                   "plan 1\n",
		"plan\n":                                 "plan 1\n",
		"\nplan\n\n\nplan 1\nopen":               "plan 1\nerror 4\nopen 1\n",
		"open\nopen\r\n \nopen":                  "open 1\nerror 4\nerror 4\nopen 2\n",
		long + "\nplan":                          "error 4\nplan 1\n",
		"carve 5 2 2:1:3\nopen\nget 1 worth\n":   "carve 12\nopen 1\nget 12\n",
		"done 0\nlabel a\nfind label\nfind find": "error 6\nlabel 61a3c2\nfind 1\nfind 1\n",
	} {
		for range 2 { // by a new room each time
			if got, e := room.Play(plant(), text); got != want || e != api.OK {
				t.Errorf("Play(%.100q): %q, %d", text, got, e)
			}
		}
	}
}
