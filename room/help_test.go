package room_test

import (
	"fmt"
	"slices"
	"strings"
	"testing"

	"silverside/api"
	"silverside/room"
)

// The chapter's limits.
const (
	mostOutlines = 64
	mostJobs     = 32
	mostDefs     = 64
	mostOpen     = 64
	mostItems    = 4096
	longestLine  = 1000
	longestTrace = 4096
	longestToken = 32
	greatest     = "9007199254740992" // value of a key
)

// plant returns a valid plant.
func plant() api.Plant {
	return api.Plant{Stocks: []int{10, 0}, Benches: 2, Check: 2}
}

func roomOf(t *testing.T, p api.Plant) *room.Room {
	t.Helper()
	r, e := room.New(p)
	if e != api.OK {
		t.Fatalf("New(%v): %d", p, e)
	}
	return r
}

// talk says the lines of a text to a room, each with the answer that it must get behind an arrow.
func talk(t *testing.T, r *room.Room, text string) {
	t.Helper()
	for _, exchange := range strings.Split(strings.TrimSpace(text), "\n") {
		line, want, hasArrow := strings.Cut(strings.TrimLeft(exchange, "\t"), " -> ")
		if !hasArrow {
			t.Fatalf("%s: without an arrow", exchange)
		}
		say(t, r, line, want)
	}
}

// say says a line to a room, and checks the answer and what every act leaves behind (P9.2, P9.10).
func say(t *testing.T, r *room.Room, line, want string) {
	t.Helper()
	text, trace := r.Text(), r.Trace()
	got := r.Say(line)
	if got != want+"\n" {
		t.Errorf("%.200q: %.200q, not %.200q", line, got, want)
	}
	if !strings.HasPrefix(got, "error ") {
		trace = traceOf(trace, line)
	} else if after := r.Text(); !mayHaveEffect(line) && after != text {
		t.Errorf("%.200q: an error with an effect: %q, not %q", line, after, text)
	}
	if r.Trace() != trace {
		t.Errorf("%.200q: trace %q, not %q", line, r.Trace(), trace)
	}
}

// quickly says lines that must be performed, without looking further.
func quickly(t *testing.T, r *room.Room, lines ...string) {
	t.Helper()
	for _, line := range lines {
		if got := r.Say(line); strings.HasPrefix(got, "error") {
			t.Fatalf("%.200q: %s", line, got)
		}
	}
}

// traceOf returns a trace with a further line, as P9.2 says.
func traceOf(trace, line string) string {
	lines := strings.SplitAfter(trace+line+"\n", "\n")
	for len(strings.Join(lines, "")) > longestTrace {
		lines = lines[1:]
	}
	return strings.Join(lines, "")
}

// mayHaveEffect tells the acts that may read, or end a transaction, although they return an error (P9.7).
func mayHaveEffect(line string) bool {
	word, _, _ := strings.Cut(line, " ")
	return slices.Contains([]string{"get", "add", "remove", "list", "commit"}, word)
}

// repeated makes lines of a pattern and the numbers from from to to - 1.
func repeated(pattern string, from, to int) []string {
	var lines []string
	for n := from; n < to; n++ {
		lines = append(lines, fmt.Sprintf(pattern, n))
	}
	return lines
}

// fill adds keys to the ledger until it has so many. It uses the number of the next transaction.
func fill(t *testing.T, r *room.Room, keys, next int) {
	t.Helper()
	for have := len(r.Items()); have < keys; have = len(r.Items()) {
		quickly(t, r, "open")
		quickly(t, r, repeated(fmt.Sprintf("put %d k%%d 1", next), have, min(keys, have+256))...)
		quickly(t, r, fmt.Sprintf("commit %d", next))
		next++
	}
}
