package pact_test

import (
	"math"
	"slices"
	"testing"

	"silverside/api"
	"silverside/pact"
)

func TestBegin(t *testing.T) {
	n := netOf(t, 10, 0, 5)
	for i, c := range []struct {
		call, letters string
	}{
		{"begin 0 0:-4 1:4", "ask 0>0 t1 -4, ask 0>1 t1 4"},
		{"begin 0 1:4 0:-4", "ask 0>1 t2 4, ask 0>0 t2 -4"},
		{"begin 2 1:-1 0:1", "ask 2>1 t3 -1, ask 2>0 t3 1"},
		{"begin 1 2:3 0:-4 1:1", "ask 1>2 t4 3, ask 1>0 t4 -4, ask 1>1 t4 1"},
		{"begin 1 2:1099511627776 0:-1099511627776", "ask 1>2 t5 1099511627776, ask 1>0 t5 -1099511627776"},
	} {
		before := len(n.Letters())
		if tx, e := take(n, stepOf(c.call)); tx != i+1 || e != api.OK {
			t.Fatalf("%s = %d, %d", c.call, tx, e)
		}
		if got := show(n.Letters()[before:]); got != c.letters {
			t.Errorf("%s sends %s, not %s", c.call, got, c.letters)
		}
		if n.Settled() || outcomes(n, i+1) != "000" || !slices.Equal(stocksOf(n), []int{10, 0, 5}) {
			t.Errorf("%s: outcomes %s, stocks %v", c.call, outcomes(n, i+1), stocksOf(n))
		}
	}
}

// TestBeginOfAllSites has a part for each of 8 sites, and a site down that is not the coordinator.
func TestBeginOfAllSites(t *testing.T) {
	n := netOf(t, 7, 7, 7, 7, 7, 7, 7, 7)
	play(t, n, "crash 3; begin 0 7:7 6:-1 5:-1 4:-1 3:-1 2:-1 1:-1 0:-1; start 3; all")
	if !n.Settled() || outcomes(n, 1) != "22222222" || !slices.Equal(stocksOf(n), []int{6, 6, 6, 6, 6, 6, 6, 14}) {
		t.Errorf("stocks %v, outcomes %s", stocksOf(n), outcomes(n, 1))
	}
}

func TestBeginKeepsAndChangesNoArgument(t *testing.T) {
	n := netOf(t, 10, 0)
	parts := []api.Move{{Site: 0, Change: -4}, {Site: 1, Change: 4}}
	if _, e := n.Begin(0, parts); e != api.OK || !slices.Equal(parts, []api.Move{{Site: 0, Change: -4}, {Site: 1, Change: 4}}) {
		t.Fatalf("Begin: %d, parts %v", e, parts)
	}
	parts[0], parts[1] = api.Move{Site: 1, Change: -9}, api.Move{Site: 0, Change: 9}
	play(t, n, "tick 0")
	if got := show(n.Letters()); got != "ask 0>0 t1 -4, ask 0>1 t1 4, ask 0>0 t1 -4, ask 0>1 t1 4" {
		t.Errorf("letters %s", got)
	}
}

// refuses checks that a call returns this error and changes nothing.
func refuses(t *testing.T, n *pact.Net, s step, want api.Errno) {
	t.Helper()
	before, twin := view(n, 3), n.Clone()
	if number, e := take(n, s); number != 0 || e != want {
		t.Errorf("%v = %d, %d, not %d", s, number, e, want)
	}
	if view(n, 3) != before {
		t.Errorf("%v changed the net from %s to %s", s, before, view(n, 3))
	}
	for site := range n.Sites() {
		n.Tick(site)
		twin.Tick(site)
	}
	number, e := n.Begin(1, []api.Move{{Site: 0, Change: 1}, {Site: 1, Change: -1}})
	wantNumber, wantE := twin.Begin(1, []api.Move{{Site: 0, Change: 1}, {Site: 1, Change: -1}})
	if view(n, 3) != view(twin, 3) || number != wantNumber || e != wantE {
		t.Errorf("%v changed something hidden: %s, not %s", s, view(n, 3), view(twin, 3))
	}
}

func TestWrongBegin(t *testing.T) {
	far := 1 << 40
	wrong := [][]api.Move{
		nil,
		{},
		{{Site: 0, Change: 1}},
		{{Site: 0, Change: 0}},
		{{Site: 0, Change: 0}, {Site: 1, Change: 0}},
		{{Site: 0, Change: -4}, {Site: 1, Change: 4}, {Site: 2, Change: 0}},
		{{Site: 0, Change: -4}, {Site: 1, Change: 5}},
		{{Site: 0, Change: -4}, {Site: 3, Change: 4}},
		{{Site: -1, Change: -4}, {Site: 1, Change: 4}},
		{{Site: math.MinInt, Change: -4}, {Site: math.MaxInt, Change: 4}},
		{{Site: 0, Change: -4}, {Site: 0, Change: 4}},
		{{Site: 0, Change: -4}, {Site: 1, Change: 8}, {Site: 0, Change: -4}},
		{{Site: 0, Change: far + 1}, {Site: 1, Change: -far - 1}},
		{{Site: 0, Change: far + 1}, {Site: 1, Change: -far}, {Site: 2, Change: -1}},
		{{Site: 0, Change: -far - 1}, {Site: 1, Change: far}, {Site: 2, Change: 1}},
		{{Site: 0, Change: math.MinInt}, {Site: 1, Change: math.MinInt}},
		{{Site: 0, Change: math.MaxInt}, {Site: 1, Change: math.MaxInt}, {Site: 2, Change: 2}},
		make([]api.Move, 1<<20),
	}
	for _, parts := range wrong {
		n := netOf(t, 10, 0, 5)
		refuses(t, n, step{"begin", []int{1}, parts}, api.ErrArg)
		for _, site := range []int{-1, 3, 9, math.MinInt, math.MaxInt} {
			if tx, e := n.Begin(site, parts); tx != 0 || e != api.ErrRange {
				t.Errorf("Begin at the site %d: %d, %d", site, tx, e)
			}
		}
		play(t, n, "crash 1")
		if tx, e := n.Begin(1, parts); tx != 0 || e != api.ErrState {
			t.Errorf("Begin at a site that is down: %d, %d", tx, e)
		}
	}
	n := netOf(t, 10, 0, 5)
	play(t, n, "crash 0")
	refuses(t, n, stepOf("begin 0 0:-4 1:4"), api.ErrState)
	refuses(t, netOf(t, 10, 0), stepOf("begin 2 0:-4 1:4"), api.ErrRange)
	refuses(t, netOf(t, 10), stepOf("begin 0 0:-4 1:4"), api.ErrArg)
}

// TestManyTransactions: 256 are possible, however they ended; wrong parts are told first.
func TestManyTransactions(t *testing.T) {
	n := netOf(t, 200, 0)
	for i := range 256 {
		if tx, e := n.Begin(i%2, []api.Move{{Site: 0, Change: -1}, {Site: 1, Change: 1}}); tx != i+1 || e != api.OK {
			t.Fatalf("Begin = %d, %d", tx, e)
		}
		if i%3 == 0 {
			play(t, n, "all")
		}
	}
	refuses(t, n, stepOf("begin 0 0:-1 1:1"), api.ErrFull)
	refuses(t, n, stepOf("begin 0 0:-1 1:2"), api.ErrArg)
	play(t, n, "all; tick 0; tick 1; all")
	if !n.Settled() || !slices.Equal(stocksOf(n), []int{0, 200}) || outcomes(n, 200) != "22" || outcomes(n, 256) != "30" && outcomes(n, 256) != "33" {
		t.Errorf("stocks %v, the last one %s", stocksOf(n), outcomes(n, 256))
	}
	play(t, n, "crash 0")
	refuses(t, n, stepOf("begin 0 0:-1 1:1"), api.ErrState)
	twin := n.Clone()
	if tx, e := twin.Begin(1, []api.Move{{Site: 0, Change: -1}, {Site: 1, Change: 1}}); tx != 0 || e != api.ErrFull {
		t.Errorf("Begin of a clone = %d, %d", tx, e)
	}
}

func TestCancel(t *testing.T) {
	n := netOf(t, 10, 0, 5)
	play(t, n, "begin 2 1:4 0:-4; begin 2 0:-3 1:3; deliver 0; deliver 0; cancel 2 1")
	if got := show(n.Letters()); got != "ask 2>0 t2 -3, ask 2>1 t2 3, yes 1>2 t1, yes 0>2 t1, abort 2>1 t1, abort 2>0 t1" {
		t.Errorf("letters %s", got)
	}
	play(t, n, "all")
	if outcomes(n, 1) != "330" || outcomes(n, 2) != "220" || !n.Settled() || !slices.Equal(stocksOf(n), []int{7, 3, 5}) {
		t.Errorf("outcomes %s, %s, stocks %v", outcomes(n, 1), outcomes(n, 2), stocksOf(n))
	}
}

// TestCancelBeforeTheQuestion: a site that is asked after the end drops the transaction all the same.
func TestCancelBeforeTheQuestion(t *testing.T) {
	n := netOf(t, 10, 0)
	play(t, n, "begin 0 0:-4 1:4; cancel 0 1; deliver 2; deliver 2")
	if outcomes(n, 1) != "00" {
		t.Errorf("outcomes %s", outcomes(n, 1))
	}
	play(t, n, "deliver 0; deliver 0")
	if got := show(n.Letters()); got != "yes 0>0 t1, yes 1>0 t1" {
		t.Errorf("letters %s", got)
	}
	play(t, n, "all")
	if outcomes(n, 1) != "33" || !n.Settled() {
		t.Errorf("outcomes %s", outcomes(n, 1))
	}
}

func TestWrongCancel(t *testing.T) {
	for _, c := range []struct {
		script, call string
		want         api.Errno
	}{
		{"begin 0 0:-4 1:4", "cancel 2 1", api.ErrRange},
		{"begin 0 0:-4 1:4", "cancel -1 9", api.ErrRange},
		{"begin 0 0:-4 1:4", "cancel 1 1", api.ErrNone},
		{"begin 0 0:-4 1:4", "cancel 0 2", api.ErrNone},
		{"begin 0 0:-4 1:4", "cancel 0 0", api.ErrNone},
		{"begin 0 0:-4 1:4", "cancel 0 -1", api.ErrNone},
		{"begin 0 0:-4 1:4", "cancel 0 9223372036854775807", api.ErrNone},
		{"begin 0 0:-4 1:4; crash 0", "cancel 0 1", api.ErrState},
		{"begin 0 0:-4 1:4; crash 0", "cancel 0 2", api.ErrState},
		{"begin 0 0:-4 1:4; crash 0; start 0", "cancel 0 1", api.ErrNone},
		{"begin 0 0:-4 1:4; cancel 0 1", "cancel 0 1", api.ErrNone},
		{"begin 0 0:-4 1:4; deliver 0; deliver 0; deliver 0; deliver 0", "cancel 0 1", api.ErrNone}, // granted
		{"begin 0 0:-4 1:4; all", "cancel 0 1", api.ErrNone},
		{"begin 0 0:-40 1:40; deliver 0; deliver 1", "cancel 0 1", api.ErrNone}, // refused
	} {
		n := netOf(t, 10, 0)
		play(t, n, c.script)
		refuses(t, n, stepOf(c.call), c.want)
	}
}
