package pact_test

import (
	"math"
	"slices"
	"testing"

	"silverside/api"
)

// TestTick has open, granted and promised transactions at one site, in a mixed order.
func TestTick(t *testing.T) {
	n := netOf(t, 50, 50, 50)
	for _, script := range []string{
		"begin 0 2:-1 1:1; all",                                                                      // 1: finished
		"begin 1 0:-2 2:2; deliver 0; deliver 0; lose 0; lose 0",                                     // 2: open at 1, promised at 0 and 2
		"begin 0 2:-3 1:2 0:1; deliver 1; deliver 1; lose 0; lose 0; lose 0",                         // 3: open at 0, promised at 1 and 0
		"begin 0 1:-4 0:4; deliver 0; deliver 0; deliver 0; deliver 0; lose 0; lose 0",               // 4: granted at 0, promised at 1 and 0
		"begin 0 2:-5 1:5; lose 0; lose 0",                                                           // 5: open at 0
		"begin 2 0:-6 1:6; deliver 0; lose 0; lose 0",                                                // 6: open at 2, promised at 0
		"begin 0 1:-7 2:7; deliver 0; deliver 0; deliver 0; deliver 0; deliver 1; deliver 1; lose 0", // 7: granted at 0, promised at 1; 2 has answered
	} {
		play(t, n, script)
	}
	if len(n.Letters()) != 0 {
		t.Fatalf("letters %s", show(n.Letters()))
	}
	for _, c := range []struct {
		script, letters string
	}{
		{"tick 0", "ask 0>2 t3 -3, ask 0>1 t3 2, ask 0>0 t3 1, ask 0>2 t5 -5, ask 0>1 t5 5, commit 0>1 t4, commit 0>0 t4, commit 0>1 t7, what 0>1 t2, what 0>0 t3, what 0>0 t4, what 0>2 t6"},
		{"tick 1", "ask 1>0 t2 -2, ask 1>2 t2 2, what 1>0 t3, what 1>0 t4, what 1>0 t7"},
		{"tick 2", "ask 2>0 t6 -6, ask 2>1 t6 6, what 2>1 t2"},
		{"crash 0; start 0; tick 0", "commit 0>1 t4, commit 0>0 t4, commit 0>1 t7, what 0>1 t2, what 0>0 t3, what 0>0 t4, what 0>2 t6"},
	} {
		twin := n.Clone()
		play(t, twin, c.script)
		if got := show(twin.Letters()); got != c.letters {
			t.Errorf("%s sends\n%s, not\n%s", c.script, got, c.letters)
		}
	}
	play(t, n, "tick 0; all; tick 1; all; tick 2; all")
	if !n.Settled() {
		t.Error("not settled")
	}
}

// TestTickAsksWhoHasNotAgreed: the order is that of the parts.
func TestTickAsksWhoHasNotAgreed(t *testing.T) {
	n := netOf(t, 50, 50, 50, 50)
	play(t, n, "begin 1 3:-3 0:1 2:1 1:1; deliver 1; deliver 3; lose 0; lose 0; lose 0; tick 1")
	if got := show(n.Letters()); got != "ask 1>3 t1 -3, ask 1>2 t1 1, ask 1>1 t1 1" {
		t.Errorf("letters %s", got)
	}
	play(t, n, "deliver 1; deliver 2; tick 1")
	if got := show(n.Letters()); got != "ask 1>3 t1 -3, ask 1>1 t1 1, ask 1>3 t1 -3, ask 1>1 t1 1" {
		t.Errorf("letters %s", got)
	}
}

// TestTickOfManyTransactions has numbers of one, two and three digits.
func TestTickOfManyTransactions(t *testing.T) {
	n := netOf(t, 500, 500)
	for range 120 {
		play(t, n, "begin 0 0:-1 1:1; deliver 0; deliver 0; lose 0; lose 0")
	}
	play(t, n, "tick 0")
	letters := n.Letters()
	if len(letters) != 360 {
		t.Fatalf("%d letters", len(letters))
	}
	for i, m := range letters {
		want := api.Mail{From: 0, To: i % 2, Kind: api.MailAsk, Tx: i/2 + 1, N: 2*(i%2) - 1}
		if i >= 240 {
			want = api.Mail{From: 0, To: 0, Kind: api.MailWhat, Tx: i - 239}
		}
		if m != want {
			t.Fatalf("letter %d is %v, not %v", i, m, want)
		}
	}
}

func TestTickWithNothingToSay(t *testing.T) {
	n := netOf(t, 10, 0)
	play(t, n, "tick 0; tick 1; begin 0 0:-4 1:4; all; begin 0 0:-40 1:40; all; tick 0; tick 1")
	if len(n.Letters()) != 0 || !n.Settled() {
		t.Errorf("letters %s", show(n.Letters()))
	}
}

func TestCrashAndStart(t *testing.T) {
	n := netOf(t, 10, 0, 3)
	play(t, n, "begin 0 0:-4 1:4; deliver 0; begin 1 0:-2 1:2; crash 0")
	if n.Up(0) || !n.Up(1) || !n.Up(2) || outcomes(n, 1) != "100" || !slices.Equal(stocksOf(n), []int{10, 0, 3}) {
		t.Errorf("after a crash: %s", view(n, 2))
	}
	if got := show(n.Letters()); got != "ask 0>1 t1 4, yes 0>0 t1, ask 1>0 t2 -2, ask 1>1 t2 2" {
		t.Errorf("letters %s", got)
	}
	play(t, n, "start 0")
	if !n.Up(0) || outcomes(n, 1) != "100" {
		t.Errorf("after a start: %s", view(n, 2))
	}
	play(t, n, "lose 0; lose 0; lose 0; lose 0; tick 0; tick 1")
	if got := show(n.Letters()); got != "what 0>0 t1, ask 1>0 t2 -2, ask 1>1 t2 2" { // the site 1 has forgotten nothing
		t.Errorf("letters %s", got)
	}
}

// TestStartForgetsNothing: what is granted and promised is there after a crash, as well as what is kept and dropped.
func TestStartForgetsNothing(t *testing.T) {
	n := netOf(t, 10, 0, 3)
	play(t, n, "begin 0 0:-4 1:4; all; begin 0 0:-40 1:40; all; begin 0 0:-1 1:1; deliver 0; deliver 0; deliver 0; deliver 0; lose 0; lose 0")
	play(t, n, "crash 0; crash 1; crash 2; start 2; start 1; start 0; tick 0")
	if got := show(n.Letters()); got != "commit 0>0 t3, commit 0>1 t3, what 0>0 t3" {
		t.Errorf("letters %s", got)
	}
	play(t, n, "all")
	if outcomes(n, 1) != "220" || outcomes(n, 2) != "330" || outcomes(n, 3) != "220" || !slices.Equal(stocksOf(n), []int{5, 5, 3}) || !n.Settled() {
		t.Errorf("%s", view(n, 3))
	}
}

func TestWrongSites(t *testing.T) {
	for _, word := range []string{"tick", "crash", "start"} {
		for _, site := range []int{-1, 2, 8, math.MinInt, math.MaxInt} {
			n := netOf(t, 10, 0)
			play(t, n, "begin 0 0:-4 1:4; crash 1")
			refuses(t, n, step{word, []int{site}, nil}, api.ErrRange)
		}
		n := netOf(t, 10, 0)
		play(t, n, "begin 0 0:-4 1:4; crash 1")
		refuses(t, n, step{word, []int{map[string]int{"tick": 1, "crash": 1, "start": 0}[word]}, nil}, api.ErrState)
	}
}

func TestExamples(t *testing.T) {
	n := netOf(t, 10, 0)
	play(t, n, "begin 0 0:-4 1:4")
	if len(n.Letters()) != 2 {
		t.Errorf("1: letters %s", show(n.Letters()))
	}
	play(t, n, "all")
	if !slices.Equal(stocksOf(n), []int{6, 4}) || !n.Settled() {
		t.Errorf("1: %s", view(n, 1))
	}
	n = netOf(t, 10, 0)
	play(t, n, "begin 0 0:-11 1:11; all")
	if !slices.Equal(stocksOf(n), []int{10, 0}) || !n.Settled() || n.Outcome(0, 1) != 3 {
		t.Errorf("2: %s", view(n, 1))
	}
	for _, script := range []string{"crash 0; start 0; tick 1; all", "crash 0; all; start 0; tick 1; tick 0; all"} {
		n = netOf(t, 10, 0)
		play(t, n, "begin 0 0:-4 1:4; deliver 0; deliver 0")
		play(t, n, script)
		if outcomes(n, 1) != "33" || !n.Settled() || !slices.Equal(stocksOf(n), []int{10, 0}) {
			t.Errorf("3, %s: %s", script, view(n, 1))
		}
	}
}
