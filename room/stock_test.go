package room_test

import (
	"strings"
	"testing"

	"silverside/api"
)

func TestStock(t *testing.T) {
	r := roomOf(t, plant())
	talk(t, r, `
		begin 0 0:-4 1:4 -> begin 1
		deliver 0 -> ok
		deliver 0 -> ok
		deliver 0 -> ok
		deliver 0 -> ok
		deliver 0 -> ok
		deliver 0 -> ok
		deliver 0 -> ok
		deliver 0 -> ok
		deliver 0 -> error 3
		begin 1 1:-5 0:5 -> begin 2
	`)
	if !strings.HasPrefix(r.Text(), "site 6 1\nsite 4 1\nletter 1 1 1 2 -5\nletter 1 0 1 2 5\n") {
		t.Errorf("Text: %s", r.Text())
	}
	if n := r.Net(); n.Outcome(0, 1) != 2 || n.Outcome(1, 1) != 2 || n.Settled() {
		t.Errorf("outcomes %d, %d", n.Outcome(0, 1), n.Outcome(1, 1))
	}
}

func TestSites(t *testing.T) {
	r := roomOf(t, plant())
	talk(t, r, `
		start 0 -> error 7
		crash 1 -> ok
		crash 1 -> error 7
		tick 1 -> error 7
		begin 1 0:-4 1:4 -> error 7
		cancel 1 1 -> error 7
		start 1 -> ok
		tick 1 -> ok
		tick 2 -> error 3
		tick -1 -> error 3
		crash 2 -> error 3
		start 2 -> error 3
		begin 2 0:-4 1:4 -> error 3
		begin 0 0:-4 0:4 -> error 2
		begin 0 0:-4 2:4 -> error 2
		begin 0 0:-4 1:5 -> error 2
		begin 0 0:0 -> error 2
		begin 0 0:-9223372036854775808 1:9223372036854775807 -> error 2
		begin 0 0:1099511627776 1:-1099511627776 -> begin 1
		cancel 0 2 -> error 6
		cancel 2 1 -> error 3
		cancel 1 1 -> error 6
		cancel 0 1 -> ok
		cancel 0 1 -> error 6
		lose 4 -> error 3
		lose 3 -> ok
		repeat 3 -> error 3
		repeat -1 -> error 3
		repeat 1 -> ok
		deliver 4 -> error 3
		deliver -1 -> error 3
		lose -1 -> error 3
	`)
	want := "site 10 1\nsite 0 1\nletter 0 0 1 1 1099511627776\nletter 0 1 1 1 -1099511627776\nletter 0 0 5 1 0\nletter 1 0 3 1 0\nversion 0\n"
	if !strings.HasPrefix(r.Text(), want) {
		t.Errorf("Text: %s", r.Text())
	}
}

// TestTick lets a site send its letters again.
func TestTick(t *testing.T) {
	r := roomOf(t, changed(func(p *api.Plant) { p.Stocks = []int{5, 6, 7} }))
	talk(t, r, `
		begin 2 0:-1 1:2 2:-1 -> begin 1
		lose 0 -> ok
		lose 0 -> ok
		lose 0 -> ok
		tick 0 -> ok
		tick 2 -> ok
	`)
	if want := "site 5 1\nsite 6 1\nsite 7 1\nletter 2 0 1 1 -1\nletter 2 1 1 1 2\nletter 2 2 1 1 -1\nversion 0\n"; !strings.HasPrefix(r.Text(), want) {
		t.Errorf("Text: %s", r.Text())
	}
	for range 3 * 4 {
		quickly(t, r, "deliver 0")
	}
	if want := "site 4 1\nsite 8 1\nsite 6 1\nversion 0\n"; !strings.HasPrefix(r.Text(), want) || !r.Net().Settled() {
		t.Errorf("Text: %s", r.Text())
	}
}

func TestMostTransactionsOfNet(t *testing.T) {
	r := roomOf(t, plant())
	for range 256 {
		quickly(t, r, "begin 0 0:-1 1:1", "lose 0", "lose 0")
	}
	talk(t, r, "begin 0 0:-1 1:1 -> error 5\nbegin 0 0:-1 1:2 -> error 2\ncancel 0 256 -> ok")
}
