package pact_test

import (
	"math"
	"slices"
	"testing"

	"silverside/api"
	"silverside/pact"
)

func TestNew(t *testing.T) {
	for _, stocks := range [][]int{{0}, {1 << 40}, {10, 0}, {3, 1 << 40, 0, 7, 1, 2, 5, 4}} {
		given := slices.Clone(stocks)
		n := netOf(t, given...)
		if n.Sites() != len(stocks) || !slices.Equal(stocksOf(n), stocks) {
			t.Errorf("New(%v): %d sites, stocks %v", stocks, n.Sites(), stocksOf(n))
		}
		for site := range stocks {
			if !n.Up(site) {
				t.Errorf("New(%v): the site %d is down", stocks, site)
			}
		}
		if len(n.Letters()) != 0 || !n.Settled() {
			t.Errorf("New(%v): letters %v, settled %v", stocks, n.Letters(), n.Settled())
		}
		for site := range given {
			if given[site] != stocks[site] {
				t.Errorf("New changed its argument to %v", given)
			}
			given[site] = 99
		}
		if !slices.Equal(stocksOf(n), stocks) {
			t.Errorf("New(%v) keeps its argument", stocks)
		}
	}
}

func TestNewOfWrongStocks(t *testing.T) {
	for _, stocks := range [][]int{nil, {}, make([]int, 9), make([]int, 1<<20), {-1}, {1<<40 + 1}, {0, 0, -1}, {5, 1<<40 + 1, 5}, {math.MinInt}, {math.MaxInt}} {
		if n, e := pact.New(stocks); n != nil || e != api.ErrArg {
			t.Errorf("New of %d stocks = %v, %d", len(stocks), n, e)
		}
	}
}

func TestSitesThatAreNotThere(t *testing.T) {
	n := netOf(t, 10, 20)
	play(t, n, "begin 0 0:-4 1:4; deliver 0; deliver 0")
	for _, site := range []int{-1, 2, 8, math.MinInt, math.MaxInt} {
		if stock, e := n.Stock(site); stock != 0 || e != api.ErrRange {
			t.Errorf("Stock(%d) = %d, %d", site, stock, e)
		}
		if n.Up(site) || n.Outcome(site, 1) != 0 {
			t.Errorf("site %d: up %v, outcome %d", site, n.Up(site), n.Outcome(site, 1))
		}
	}
}

func TestUnusableNets(t *testing.T) {
	parts := []api.Move{{Site: 0, Change: -1}, {Site: 1, Change: 1}}
	for _, n := range []*pact.Net{nil, {}} {
		if n.Sites() != 0 || n.Up(0) || len(n.Letters()) != 0 || n.Outcome(0, 1) != 0 || n.Settled() || n.Clone() != nil {
			t.Error("an unusable net has something")
		}
		for _, k := range []int{0, -1, 9} {
			if stock, e := n.Stock(k); stock != 0 || e != api.ErrUnusable {
				t.Errorf("Stock = %d, %d", stock, e)
			}
			if tx, e := n.Begin(k, parts); tx != 0 || e != api.ErrUnusable {
				t.Errorf("Begin = %d, %d", tx, e)
			}
			if tx, e := n.Begin(k, nil); tx != 0 || e != api.ErrUnusable {
				t.Errorf("Begin without parts = %d, %d", tx, e)
			}
			for i, e := range []api.Errno{n.Cancel(k, 1), n.Deliver(k), n.Repeat(k), n.Lose(k), n.Tick(k), n.Crash(k), n.Start(k)} {
				if e != api.ErrUnusable {
					t.Errorf("call %d: %d", i, e)
				}
			}
		}
	}
}

func TestLettersAreNewMemory(t *testing.T) {
	n := netOf(t, 10, 0)
	play(t, n, "begin 0 0:-4 1:4")
	clear(n.Letters())
	if got := show(n.Letters()); got != "ask 0>0 t1 -4, ask 0>1 t1 4" {
		t.Errorf("letters %s", got)
	}
	_ = append(n.Letters()[:1], api.Mail{})
	if got := show(n.Letters()); got != "ask 0>0 t1 -4, ask 0>1 t1 4" {
		t.Errorf("letters %s", got)
	}
}

// scripts lead to nets with all kinds of memory.
var scripts = []string{
	"",
	"begin 0 0:-4 1:4",
	"begin 0 0:-4 1:4; deliver 0; deliver 0; deliver 0",
	"begin 2 0:-4 1:4; deliver 0; deliver 0; deliver 0; deliver 0; deliver 0",
	"begin 0 0:-4 1:4; begin 1 0:-4 1:4; deliver 1; deliver 2; begin 1 1:1 2:-1; lose 0; deliver 0; crash 2",
	"begin 0 0:-4 1:5 2:-1; crash 1",
	"begin 0 0:-11 1:11; all; begin 1 2:-1 1:1; all; begin 2 2:-1 1:1; deliver 0",
}

// TestClone makes all calls on a clone and none on the net, then the other way round.
func TestClone(t *testing.T) {
	rest := []string{"begin 1 1:-1 2:1", "deliver 0", "repeat 0", "deliver 0", "cancel 0 1", "tick 0", "tick 1", "tick 2", "deliver 3", "lose 0", "crash 0", "start 0", "start 1", "deliver 0", "deliver 0", "deliver 0"}
	for _, script := range scripts {
		n, same := netOf(t, 10, 10, 10), netOf(t, 10, 10, 10)
		play(t, n, script)
		play(t, same, script)
		before := view(n, 4)
		twin := n.Clone()
		if view(twin, 4) != before {
			t.Fatalf("%s: Clone has %s, not %s", script, view(twin, 4), before)
		}
		for _, text := range rest {
			number, e := take(twin, stepOf(text))
			wantNumber, want := take(same, stepOf(text))
			if number != wantNumber || e != want || view(twin, 6) != view(same, 6) {
				t.Fatalf("%s: a clone differs after %s: %s", script, text, view(twin, 6))
			}
		}
		deliverAll(twin)
		if view(n, 4) != before {
			t.Fatalf("%s: calls on a clone changed the net to %s", script, view(n, 4))
		}
		afterwards := view(twin, 6)
		for _, text := range rest {
			take(n, stepOf(text))
		}
		if view(twin, 6) != afterwards {
			t.Fatalf("%s: calls on the net changed a clone", script)
		}
	}
}

// TestCloneRemembersHiddenThings: what is open and granted cannot be seen, but a tick tells it.
func TestCloneRemembersHiddenThings(t *testing.T) {
	n := netOf(t, 10, 10, 10)
	play(t, n, "begin 2 0:-4 1:4; all; begin 2 0:-1 1:1; begin 2 0:-1 1:1; deliver 0; deliver 0; deliver 2; deliver 2; deliver 0; deliver 0; deliver 0")
	for len(n.Letters()) > 0 {
		play(t, n, "lose 0")
	}
	twin := n.Clone()
	play(t, twin, "tick 2")
	want := show(twin.Letters())
	play(t, twin, "all; tick 2; all")
	if len(n.Letters()) != 0 {
		t.Fatalf("letters %s", show(n.Letters()))
	}
	play(t, n, "tick 2")
	if got := show(n.Letters()); got != want || got == "" {
		t.Errorf("the net sends %s, a clone %s", got, want)
	}
}

func TestSettled(t *testing.T) {
	for _, c := range []struct {
		script string
		want   bool
	}{
		{"", true},
		{"begin 0 0:-4 1:4", false},
		{"begin 2 0:-4 1:4; lose 0; lose 0", false},                                                                   // open only
		{"begin 2 0:-4 1:4; lose 0; deliver 0; lose 0; crash 2", false},                                               // promised only
		{"begin 2 0:-4 1:4; lose 0; lose 0; crash 2", true},                                                           // forgotten
		{"begin 2 0:-4 1:4; crash 2", false},                                                                          // letters only
		{"begin 2 0:-4 1:4; deliver 0; deliver 0; deliver 0; deliver 0; deliver 0; deliver 0", false},                 // letters, granted
		{"begin 2 0:-4 1:4; deliver 0; deliver 0; deliver 0; deliver 0; deliver 0; deliver 0; lose 0; lose 0", false}, // granted only
		{"begin 2 0:-4 1:4; all", true},
		{"begin 2 0:-11 1:11; all", true},
		{"crash 0; crash 1; crash 2", true},
	} {
		n := netOf(t, 10, 10, 10)
		play(t, n, c.script)
		if n.Settled() != c.want {
			t.Errorf("%s: settled %v", c.script, n.Settled())
		}
	}
}

func TestOutcome(t *testing.T) {
	n := netOf(t, 10, 10, 10)
	play(t, n, "begin 0 0:-4 1:4; deliver 0")
	if got := outcomes(n, 1); got != "100" {
		t.Errorf("promised: %s", got)
	}
	play(t, n, "crash 0; crash 2")
	if got := outcomes(n, 1); got != "100" {
		t.Errorf("promised and down: %s", got)
	}
	play(t, n, "start 0; start 2; all; tick 0; all; begin 0 0:-4 1:4; all")
	if got := outcomes(n, 1) + " " + outcomes(n, 2); got != "330 220" {
		t.Errorf("dropped and kept: %s", got)
	}
	play(t, n, "crash 0; crash 1")
	if got := outcomes(n, 1) + " " + outcomes(n, 2); got != "330 220" {
		t.Errorf("dropped and kept, and down: %s", got)
	}
	for _, tx := range []int{0, -1, 3, 257, math.MinInt, math.MaxInt} {
		if got := outcomes(n, tx); got != "000" {
			t.Errorf("the transaction %d: %s", tx, got)
		}
	}
}
