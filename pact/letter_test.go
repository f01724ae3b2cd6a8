package pact_test

import (
	"fmt"
	"math"
	"slices"
	"testing"

	"silverside/api"
	"silverside/pact"
)

// letterCase is a script for three sites with the stock 10 each, and what then can be seen of transaction 1.
type letterCase struct {
	script, letters, known string
	stocks                 []int
}

func checkLetters(t *testing.T, cases []letterCase) {
	t.Helper()
	for _, c := range cases {
		n := netOf(t, 10, 10, 10)
		play(t, n, c.script)
		if c.stocks == nil {
			c.stocks = []int{10, 10, 10}
		}
		if got := show(n.Letters()); got != c.letters {
			t.Errorf("%s: letters %s, not %s", c.script, got, c.letters)
		}
		if got := outcomes(n, 1); got != c.known || !slices.Equal(stocksOf(n), c.stocks) {
			t.Errorf("%s: outcomes %s, not %s; stocks %v", c.script, got, c.known, stocksOf(n))
		}
	}
}

func TestAsk(t *testing.T) {
	checkLetters(t, []letterCase{
		{script: "begin 2 0:-4 1:4; deliver 0", letters: "ask 2>1 t1 4, yes 0>2 t1", known: "100"},
		{script: "begin 2 0:-4 1:4; deliver 1", letters: "ask 2>0 t1 -4, yes 1>2 t1", known: "010"},
		{script: "begin 2 0:-10 1:10; deliver 0", letters: "ask 2>1 t1 10, yes 0>2 t1", known: "100"},
		{script: "begin 2 0:-11 1:11; deliver 0", letters: "ask 2>1 t1 11, no 0>2 t1", known: "300"},
		// A site that has promised, dropped or kept it is asked once more.
		{script: "begin 2 0:-4 1:4; repeat 0; deliver 0", letters: "ask 2>1 t1 4, yes 0>2 t1, yes 0>2 t1", known: "100"},
		{script: "begin 2 0:-11 1:11; repeat 0; deliver 0", letters: "ask 2>1 t1 11, no 0>2 t1, no 0>2 t1", known: "300"},
		{script: "begin 2 0:-4 1:4; repeat 0; deliver 1; deliver 1; deliver 1; deliver 1; deliver 1; deliver 0", letters: "done 0>2 t1, done 1>2 t1", known: "220", stocks: []int{6, 14, 10}},
		{script: "begin 2 0:-4 1:4; repeat 0; cancel 2 1; lose 1; lose 1; deliver 1; deliver 0; lose 0", letters: "no 0>2 t1", known: "300"},
	})
}

// TestPossibleChanges: a promise counts for the further ones of its own sign, until it is kept or dropped.
func TestPossibleChanges(t *testing.T) {
	for _, c := range []struct {
		stocks []int
		script string
		want   string
	}{
		{[]int{10, 0}, "begin 0 0:-4 1:4; deliver 0; begin 0 0:-6 1:6; deliver 2", "promised"},
		{[]int{10, 0}, "begin 0 0:-4 1:4; deliver 0; begin 0 0:-7 1:7; deliver 2", "dropped"},
		{[]int{10, 9}, "begin 0 0:4 1:-4; deliver 0; begin 0 0:-11 1:11; deliver 2", "dropped"}, // what is to come does not count
		{[]int{10, 9}, "begin 0 0:4 1:-4; deliver 0; begin 0 0:-10 1:10; deliver 2", "promised"},
		{[]int{10, 9}, "begin 0 0:4 1:-4; all; begin 0 0:-14 1:14; deliver 0", "promised"},
		{[]int{10, 9}, "begin 0 0:4 1:-4; all; begin 0 0:-15 1:15; deliver 0", "dropped"},
		{[]int{10, 9}, "begin 0 0:-4 1:4; all; begin 0 0:-7 1:7; deliver 0", "dropped"},
		{[]int{10, 9}, "begin 0 0:-4 1:4; deliver 0; cancel 0 1; all; begin 0 0:-10 1:10; deliver 0", "promised"},
		{[]int{10, 9}, "begin 0 0:-40 1:40; deliver 0; begin 0 0:-10 1:10; deliver 2", "promised"},
		{[]int{1<<40 - 10, 20}, "begin 0 0:10 1:-10; deliver 0; deliver 0", "promised"},
		{[]int{1<<40 - 10, 20}, "begin 0 0:11 1:-11; deliver 0", "dropped"},
		{[]int{1<<40 - 10, 20}, "begin 0 0:4 1:-4; deliver 0; begin 0 0:6 1:-6; deliver 2", "promised"},
		{[]int{1<<40 - 10, 20}, "begin 0 0:4 1:-4; deliver 0; begin 0 0:7 1:-7; deliver 2", "dropped"},
		{[]int{1<<40 - 10, 20}, "begin 0 0:-4 1:4; deliver 0; begin 0 0:11 1:-11; deliver 2", "dropped"},
		{[]int{1<<40 - 10, 20}, "begin 0 0:-4 1:4; all; begin 0 0:14 1:-14; deliver 0", "promised"},
		{[]int{1 << 40, 0}, "begin 0 0:-1099511627776 1:1099511627776; deliver 0", "promised"},
		{[]int{0, 0}, "begin 0 0:1099511627776 1:-1099511627776; deliver 0", "promised"},
		{[]int{1, 0}, "begin 0 0:1099511627776 1:-1099511627776; deliver 0", "dropped"},
	} {
		n := netOf(t, c.stocks...)
		play(t, n, c.script)
		last := max(n.Outcome(0, 1), n.Outcome(0, 2))
		if n.Outcome(0, 2) != 0 {
			last = n.Outcome(0, 2)
		}
		if want := map[string]int{"promised": 1, "dropped": 3}[c.want]; last != want {
			t.Errorf("%v, %s: %d, not %s", c.stocks, c.script, last, c.want)
		}
	}
}

func TestYes(t *testing.T) {
	asked := "begin 2 1:4 0:-4; repeat 0; deliver 0; deliver 0; " // yes 1, yes 1, yes 0
	checkLetters(t, []letterCase{
		{script: asked, letters: "yes 1>2 t1, yes 1>2 t1, yes 0>2 t1", known: "110"},
		{script: asked + "deliver 0", letters: "yes 1>2 t1, yes 0>2 t1", known: "110"},
		{script: asked + "deliver 0; deliver 0", letters: "yes 0>2 t1", known: "110"}, // agreeing twice is agreeing once
		{script: asked + "deliver 2", letters: "yes 1>2 t1, yes 1>2 t1", known: "110"},
		{script: asked + "deliver 0; deliver 1", letters: "yes 1>2 t1, commit 2>1 t1, commit 2>0 t1", known: "110"},
		// Granted already: the site that has not answered is told again, the other one is not.
		{script: asked + "deliver 0; deliver 1; deliver 0", letters: "commit 2>1 t1, commit 2>0 t1, commit 2>1 t1", known: "110"},
		{script: asked + "deliver 0; deliver 1; deliver 1; deliver 2; deliver 0", letters: "commit 2>0 t1", known: "120", stocks: []int{10, 14, 10}},
		// Neither open nor granted: cancelled, forgotten, finished.
		{script: asked + "cancel 2 1; deliver 0", letters: "yes 1>2 t1, yes 0>2 t1, abort 2>1 t1, abort 2>0 t1, abort 2>1 t1", known: "110"},
		{script: asked + "crash 2; start 2; deliver 2", letters: "yes 1>2 t1, yes 1>2 t1, abort 2>0 t1", known: "110"},
		{script: asked + "crash 2; deliver 2", letters: "yes 1>2 t1, yes 1>2 t1", known: "110"},
		{script: asked + "deliver 0; deliver 1; deliver 1; deliver 1; deliver 1; deliver 1", letters: "yes 1>2 t1", known: "220", stocks: []int{6, 14, 10}},
		{script: asked + "deliver 0; deliver 1; deliver 1; deliver 1; deliver 1; deliver 1; deliver 0", letters: "abort 2>1 t1", known: "220", stocks: []int{6, 14, 10}},
		{script: asked + "deliver 0; deliver 1; deliver 1; deliver 1; deliver 1; deliver 1; all", letters: "", known: "220", stocks: []int{6, 14, 10}},
	})
}

func TestNo(t *testing.T) {
	asked := "begin 2 1:5 0:-15 2:10; deliver 1; deliver 0; " // ask 2, no 0, yes 1
	checkLetters(t, []letterCase{
		{script: asked, letters: "ask 2>2 t1 10, no 0>2 t1, yes 1>2 t1", known: "310"},
		{script: asked + "deliver 1", letters: "ask 2>2 t1 10, yes 1>2 t1, abort 2>1 t1, abort 2>2 t1", known: "310"},
		{script: asked + "repeat 1; deliver 1", letters: "ask 2>2 t1 10, yes 1>2 t1, abort 2>1 t1, abort 2>2 t1", known: "310"},
		{script: asked + "deliver 2; deliver 1", letters: "ask 2>2 t1 10, abort 2>1 t1, abort 2>2 t1", known: "310"},
		{script: asked + "cancel 2 1; deliver 1", letters: "ask 2>2 t1 10, yes 1>2 t1, abort 2>1 t1, abort 2>0 t1, abort 2>2 t1", known: "310"},
		{script: asked + "crash 2; deliver 1; start 2", letters: "ask 2>2 t1 10, yes 1>2 t1", known: "310"},
		{script: asked + "crash 2; start 2; deliver 1", letters: "ask 2>2 t1 10, yes 1>2 t1", known: "310"},
		{script: asked + "deliver 1; deliver 1; deliver 2", letters: "ask 2>2 t1 10, abort 2>1 t1, abort 2>1 t1", known: "310"},
		{script: asked + "all", letters: "", known: "333"},
	})
}

func TestCommit(t *testing.T) {
	agreed := "begin 2 0:-4 1:4; deliver 0; deliver 0; deliver 0; deliver 0; " // commit 0, commit 1
	checkLetters(t, []letterCase{
		{script: agreed, letters: "commit 2>0 t1, commit 2>1 t1", known: "110"},
		{script: agreed + "deliver 0", letters: "commit 2>1 t1, done 0>2 t1", known: "210", stocks: []int{6, 10, 10}},
		{script: agreed + "deliver 1", letters: "commit 2>0 t1, done 1>2 t1", known: "120", stocks: []int{10, 14, 10}},
		{script: agreed + "repeat 0; deliver 0", letters: "commit 2>1 t1, done 0>2 t1, done 0>2 t1", known: "210", stocks: []int{6, 10, 10}},
		{script: agreed + "crash 0; deliver 0", letters: "commit 2>1 t1", known: "110"},
		{script: agreed + "crash 0; start 0; deliver 0", letters: "commit 2>1 t1, done 0>2 t1", known: "210", stocks: []int{6, 10, 10}},
		{script: agreed + "crash 2; deliver 0", letters: "commit 2>1 t1, done 0>2 t1", known: "210", stocks: []int{6, 10, 10}},
	})
}

func TestAbort(t *testing.T) {
	cancelled := "begin 2 0:-4 1:4; deliver 0; cancel 2 1; " // ask 1, yes 0, abort 0, abort 1
	checkLetters(t, []letterCase{
		{script: cancelled, letters: "ask 2>1 t1 4, yes 0>2 t1, abort 2>0 t1, abort 2>1 t1", known: "100"},
		{script: cancelled + "deliver 2", letters: "ask 2>1 t1 4, yes 0>2 t1, abort 2>1 t1", known: "300"},
		{script: cancelled + "repeat 2; deliver 2", letters: "ask 2>1 t1 4, yes 0>2 t1, abort 2>1 t1", known: "300"},
		{script: cancelled + "deliver 3", letters: "ask 2>1 t1 4, yes 0>2 t1, abort 2>0 t1", known: "100"}, // never promised
		{script: cancelled + "crash 0; deliver 2", letters: "ask 2>1 t1 4, yes 0>2 t1, abort 2>1 t1", known: "100"},
		// A site that has kept it keeps it.
		{script: "begin 2 0:-4 1:4; repeat 0; deliver 1; deliver 1; deliver 1; deliver 0; deliver 0; deliver 0; deliver 0; deliver 0; all", letters: "", known: "220", stocks: []int{6, 14, 10}},
	})
}

func TestDone(t *testing.T) {
	kept := "begin 2 0:-4 1:4; deliver 0; deliver 0; deliver 0; deliver 0; deliver 0; repeat 1; deliver 1; " // commit 1, done 0
	stocks := []int{6, 10, 10}
	checkLetters(t, []letterCase{
		{script: kept, letters: "commit 2>1 t1", known: "210", stocks: stocks},
		{script: kept + "tick 2", letters: "commit 2>1 t1, commit 2>1 t1", known: "210", stocks: stocks},
		{script: kept + "crash 2; start 2; tick 2", letters: "commit 2>1 t1, commit 2>1 t1", known: "210", stocks: stocks},
		{script: kept + "deliver 0; tick 2", letters: "done 1>2 t1, commit 2>1 t1", known: "220", stocks: []int{6, 14, 10}},
		{script: kept + "deliver 0; repeat 0; tick 2", letters: "done 1>2 t1", known: "220", stocks: []int{6, 14, 10}},
		{script: kept + "deliver 0; repeat 0; deliver 0", letters: "", known: "220", stocks: []int{6, 14, 10}},
		{script: kept + "deliver 0; crash 2; deliver 0; start 2; tick 2", letters: "commit 2>1 t1", known: "220", stocks: []int{6, 14, 10}},
	})
}

func TestWhat(t *testing.T) {
	promised := "begin 2 0:-4 1:4; deliver 0; tick 0; " // ask 1, yes 0, what 0
	checkLetters(t, []letterCase{
		{script: promised, letters: "ask 2>1 t1 4, yes 0>2 t1, what 0>2 t1", known: "100"},
		{script: promised + "deliver 2", letters: "ask 2>1 t1 4, yes 0>2 t1", known: "100"}, // open: no answer yet
		{script: promised + "deliver 1; deliver 0; deliver 1; deliver 0", letters: "commit 2>0 t1, commit 2>1 t1, commit 2>0 t1", known: "110"},
		{script: promised + "crash 2; deliver 2", letters: "ask 2>1 t1 4, yes 0>2 t1", known: "100"},
		{script: promised + "crash 2; start 2; deliver 2", letters: "ask 2>1 t1 4, yes 0>2 t1, abort 2>0 t1", known: "100"},
		{script: promised + "cancel 2 1; deliver 2", letters: "ask 2>1 t1 4, yes 0>2 t1, abort 2>0 t1, abort 2>1 t1, abort 2>0 t1", known: "100"},
		// A site that has answered asks late: it is told once more, and answers once more.
		{script: promised + "deliver 1; deliver 0; deliver 1; deliver 1; deliver 2; deliver 0", letters: "commit 2>1 t1, commit 2>0 t1", known: "210", stocks: []int{6, 10, 10}},
	})
}

func TestPositionsOfLetters(t *testing.T) {
	for _, c := range []struct {
		word, letters string
		k             int
	}{
		{"deliver", "ask 2>1 t1 4, ask 2>2 t1 1, yes 0>2 t1", 0},
		{"deliver", "ask 2>0 t1 -5, ask 2>2 t1 1, yes 1>2 t1", 1},
		{"deliver", "ask 2>0 t1 -5, ask 2>1 t1 4, yes 2>2 t1", 2},
		{"repeat", "ask 2>0 t1 -5, ask 2>1 t1 4, ask 2>2 t1 1, yes 1>2 t1", 1},
		{"repeat", "ask 2>0 t1 -5, ask 2>1 t1 4, ask 2>2 t1 1, yes 2>2 t1", 2},
		{"lose", "ask 2>1 t1 4, ask 2>2 t1 1", 0},
		{"lose", "ask 2>0 t1 -5, ask 2>2 t1 1", 1},
		{"lose", "ask 2>0 t1 -5, ask 2>1 t1 4", 2},
	} {
		checkLetters(t, []letterCase{{
			script:  fmt.Sprint("begin 2 0:-5 1:4 2:1; ", c.word, " ", c.k),
			letters: c.letters,
			known:   map[bool]string{true: "000", false: []string{"100", "010", "001"}[c.k]}[c.word == "lose"],
		}})
	}
}

func TestLettersToASiteThatIsDown(t *testing.T) {
	checkLetters(t, []letterCase{
		{script: "begin 2 0:-4 1:4; crash 0; deliver 0", letters: "ask 2>1 t1 4", known: "000"},
		{script: "begin 2 0:-4 1:4; crash 0; repeat 0", letters: "ask 2>0 t1 -4, ask 2>1 t1 4", known: "000"},
		{script: "begin 2 0:-4 1:4; crash 0; lose 0", letters: "ask 2>1 t1 4", known: "000"},
		{script: "begin 2 0:-4 1:4; crash 2; deliver 0", letters: "ask 2>1 t1 4, yes 0>2 t1", known: "100"}, // only the sender is down
	})
}

func TestLettersThatAreNotThere(t *testing.T) {
	for _, script := range []string{"", "begin 0 0:-4 1:4", "begin 0 0:-4 1:4; all", "begin 0 0:-4 1:4; crash 1"} {
		for _, word := range []string{"deliver", "repeat", "lose"} {
			n := netOf(t, 10, 0)
			play(t, n, script)
			count := len(n.Letters())
			for _, k := range []int{-1, count, count + 1, 1024, math.MinInt, math.MaxInt} {
				refuses(t, n.Clone(), step{word, []int{k}, nil}, api.ErrRange)
			}
		}
	}
}

// fill begins transactions at the site 0 until this many letters are on their way.
func fill(t *testing.T, n *pact.Net, count int) {
	t.Helper()
	for len(n.Letters()) < count {
		play(t, n, "begin 0 0:-1 1:1; tick 0")
	}
	for len(n.Letters()) > count {
		play(t, n, "lose 0")
	}
}

func TestNoRoomForLetters(t *testing.T) {
	n := netOf(t, 100, 100, 100, 100)
	fill(t, n, 1022)
	before := n.Letters()
	tx, e := take(n, stepOf("begin 3 3:-2 2:1 1:1"))
	asked := n.Letters()
	want := fmt.Sprintf("ask 3>3 t%d -2, ask 3>2 t%d 1", tx, tx)
	if e != api.OK || len(asked) != 1024 || show(asked[1022:]) != want || !slices.Equal(asked[:1022], before) {
		t.Fatalf("Begin: %d, %d letters, the last ones %s", e, len(asked), show(asked[1020:]))
	}
	play(t, n, "repeat 1022") // stays, so that there is no room for the reply
	if n.Outcome(3, tx) != 1 || !slices.Equal(n.Letters(), asked) {
		t.Errorf("outcome %d, %d letters", n.Outcome(3, tx), len(n.Letters()))
	}
	play(t, n, "deliver 1022") // leaves its place to the reply
	replied := n.Letters()
	if len(replied) != 1024 || show(replied[1022:]) != fmt.Sprintf("ask 3>2 t%d 1, yes 3>3 t%d", tx, tx) {
		t.Errorf("the last letters are %s", show(replied[1020:]))
	}
	play(t, n, "tick 0; tick 3; begin 3 3:-2 2:1 1:1; cancel 3 "+fmt.Sprint(tx+1))
	if !slices.Equal(n.Letters(), replied) {
		t.Errorf("%d letters, the last ones %s", len(n.Letters()), show(n.Letters()[1020:]))
	}
	play(t, n, "lose 5; tick 3")
	if got := n.Letters(); len(got) != 1024 || show(got[1023:]) != fmt.Sprintf("ask 3>3 t%d -2", tx) {
		t.Errorf("the last letters are %s", show(got[1020:]))
	}
}
