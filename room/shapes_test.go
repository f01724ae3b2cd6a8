package room_test

import (
	"fmt"
	"strings"
	"testing"

	"silverside/api"
	"silverside/plane"
)

func TestOutlines(t *testing.T) {
	talk(t, roomOf(t, plant()), `
		outline 0:0 4:0 4:4 0:4 -> outline 0 32
		outline 9:9 9:8 8:8 -> outline 1 1
		outline 0:4 4:4 4:0 0:0 -> outline 2 32
		outline -4096:-4096 4096:-4096 4096:4096 -4096:4096 -> outline 3 134217728
		outline 0:0 4:0 4:4 2:1 -> outline 4 12
		outline 0:0 1:0 2:0 -> error 2
		outline 0:0 4:4 4:0 0:4 -> error 2
		outline 0:0 4:0 4:4 0:0 -> error 2
		outline 0:0 0:0 4:4 -> error 2
		outline 0:0 4097:0 4:4 -> error 2
		outline 0:0 4:-4097 4:4 -> error 2
		outline 0:0 1:0 -> error 4
		outline -> error 4
		outline 0:0 4:0 4:4 0:4 -> outline 5 32
	`)
}

func TestMostOutlines(t *testing.T) {
	r := roomOf(t, plant())
	for k := range mostOutlines {
		say(t, r, fmt.Sprintf("outline 0:0 %d:0 0:1", k+1), fmt.Sprintf("outline %d %d", k, k+1))
	}
	talk(t, r, `
		outline 0:0 1:0 0:1 -> error 5
		outline 0:0 1:0 2:0 -> error 2
		touch 63 64:0 -> touch 0
		touch 64 64:0 -> error 6
	`)
}

// TestLongOutline has as many points as a line has room for.
func TestLongOutline(t *testing.T) {
	r := roomOf(t, plant())
	line := "outline 0:9"
	for x := 0; len(line) < longestLine-8; x++ {
		line += fmt.Sprintf(" %d:%d", x, x%2)
	}
	result := strings.TrimSpace(r.Say(line))
	points, e := r.Outline(0)
	if e != api.OK || len(points) < 150 {
		t.Fatalf("%s: %d points, %d", result, len(points), e)
	}
	area, _ := plane.Area(points)
	if want := fmt.Sprintf("outline 0 %d", area); result != want {
		t.Errorf("%s, not %s", result, want)
	}
}

func TestTouch(t *testing.T) {
	r := roomOf(t, plant())
	quickly(t, r, "outline 0:0 4:0 4:4 0:4", "outline 0:0 4:0 4:4 2:1")
	talk(t, r, `
		touch 0 2:2 -> touch 1
		touch 0 4:2 -> touch 0
		touch 0 5:2 -> touch -1
		touch 1 2:2 -> touch -1
		touch 1 3:1 -> touch 1
		touch 1 2:1 -> touch 0
		touch 1 4096:-4096 -> touch -1
		touch 1 4097:0 -> error 2
		touch 1 0:-4097 -> error 2
		touch 2 0:0 -> error 6
		touch -1 0:0 -> error 6
		touch 2 4097:0 -> error 6
	`)
}

func TestApart(t *testing.T) {
	r := roomOf(t, plant())
	quickly(t, r, "outline 0:0 4:0 4:4 0:4", "outline 9:9 9:8 8:8", "outline 4:4 5:4 5:5", "outline 0:0 4:0 4:4 2:1", "outline 0:4 1:3 0:3")
	talk(t, r, `
		apart 0 1 -> apart 1
		apart 1 0 -> apart 1
		apart 0 0 -> apart 0
		apart 0 2 -> apart 0
		apart 2 0 -> apart 0
		apart 3 4 -> apart 1
		apart 0 5 -> error 6
		apart 5 0 -> error 6
		apart -1 0 -> error 6
		apart 0 -1 -> error 6
	`)
}

func TestCarve(t *testing.T) {
	r := roomOf(t, plant())
	talk(t, r, `
		open -> open 1
		carve 5 2 2:1:3 -> carve 12
		open -> open 2
		get 1 worth -> error 6
		get 2 worth -> get 12
		get 2 pieces -> get 1
		carve 1 1 -> carve 0
		carve 3 3 1:2:1 2:1:1 -> carve 4
		carve 1 1 2:1:3 -> carve 0
		carve 48 48 1:1:1048576 -> carve 2415919104
		open -> open 3
		get 3 worth -> get 2415919120
		get 3 pieces -> get 5
		get 2 pieces -> get 1
	`)
	if !strings.Contains(r.Text(), "version 5\nitem pieces 5\nitem worth 2415919120\nopen 3\n") {
		t.Errorf("Text: %s", r.Text())
	}
}

func TestCarveWithoutTask(t *testing.T) {
	r := roomOf(t, plant())
	talk(t, r, `
		carve 0 1 -> error 2
		carve 1 0 -> error 2
		carve 49 1 -> error 2
		carve 1 49 -> error 2
		carve -1 1 -> error 2
		carve 5 5 0:1:1 -> error 2
		carve 5 5 1:0:1 -> error 2
		carve 5 5 49:1:1 -> error 2
		carve 5 5 1:49:1 -> error 2
		carve 5 5 1:1:-1 -> error 2
		carve 5 5 1:1:1048577 -> error 2
		carve 5 5 1:1:1 1:1:-1 -> error 2
	`)
	say(t, r, "carve 5 5"+strings.Repeat(" 1:1:1", 17), "error 2")
	say(t, r, "carve 5 5"+strings.Repeat(" 1:1:1", 16), "carve 25")
}

// TestCarveInLedger checks in which cases the ledger does not take what a plan is worth. Each of them leaves no open transaction behind.
func TestCarveInLedger(t *testing.T) {
	r := roomOf(t, plant())
	quickly(t, r, "def unit (fn w (fn h 1))", "open")
	talk(t, r, `
		put 1 worth `+greatest+` -> ok
		commit 1 -> commit 1
		carve 1 1 1:1:1 -> error 2
		price 1 1 unit 1:1 -> error 2
		carve 1 1 1:1:0 -> carve 0
		open -> open 2
		put 2 worth 0 -> ok
		put 2 pieces `+greatest+` -> ok
		commit 2 -> commit 3
		carve 1 1 1:1:1 -> error 2
		price 1 1 unit 1:1 -> error 2
		carve 0 1 -> error 2
	`)
	if !strings.Contains(r.Text(), "version 3\nitem pieces "+greatest+"\nitem worth 0\nopen 0\n") {
		t.Errorf("Text: %s", r.Text())
	}
}

func TestCarveWithoutRoom(t *testing.T) {
	for keys, want := range map[int]string{mostItems - 2: "", mostItems - 1: "error 5", mostItems: "error 5"} {
		r := roomOf(t, plant())
		quickly(t, r, "def unit (fn w (fn h 2))")
		fill(t, r, keys, 1)
		for _, c := range [][2]string{{"carve 2 2 1:1:2", "carve 8"}, {"price 2 2 unit 1:1", "price 8"}} {
			if want != "" {
				c[1] = want
			}
			say(t, r, c[0], c[1])
		}
		if !strings.Contains(r.Text(), "\nopen 0\n") {
			t.Errorf("%d keys: open transactions", keys)
		}
	}
}

func TestCarveWithoutTransaction(t *testing.T) {
	r := roomOf(t, plant())
	quickly(t, r, "def unit (fn w (fn h 1))", "def none (fn w (fn h (/ w 0)))")
	quickly(t, r, times("open", mostOpen-1)...)
	talk(t, r, `
		carve 1 1 1:1:1 -> carve 1
		open -> open 64
		carve 1 1 1:1:1 -> error 5
		price 1 1 unit 1:1 -> error 5
		carve 0 1 1:1:1 -> error 2
		price 1 1 none 1:1 -> error 63
		abort 7 -> ok
		carve 1 1 1:1:1 -> carve 1
		price 1 1 unit 1:1 -> price 1
	`)
}

// times repeats a line.
func times(line string, count int) []string {
	lines := make([]string, count)
	for i := range lines {
		lines[i] = line
	}
	return lines
}
