package room_test

import (
	"fmt"
	"strings"
	"testing"
)

func TestTransactions(t *testing.T) {
	r := roomOf(t, plant())
	talk(t, r, `
		open -> open 1
		put 1 k 3 -> ok
		add 1 k 4 -> add 7
		get 1 k -> get 7
		get 1 l -> error 6
		add 1 l -5 -> add -5
		put 1 m `+greatest+` -> ok
		put 1 m 9007199254740993 -> error 2
		put 1 m -9007199254740993 -> error 2
		put 1 n -`+greatest+` -> ok
		add 1 m 1 -> error 2
		add 1 m 9007199254740993 -> error 2
		list 1 a p -> list k:7 l:-5 m:`+greatest+` n:-`+greatest+`
		remove 1 l -> ok
		remove 1 l -> error 6
		list 1 a m -> list k:7
		list 1 l - -> list m:`+greatest+` n:-`+greatest+`
		list 1 o - -> list
		list 1 - - -> list k:7 m:`+greatest+` n:-`+greatest+`
		list 1 m a -> list
		list 1 m m -> list
		commit 1 -> commit 1
		commit 1 -> error 7
		abort 1 -> error 7
		get 1 k -> error 7
		put 1 k 9007199254740993 -> error 7
		add 1 k 1 -> error 7
		remove 1 k -> error 7
		list 1 a b -> error 7
		open -> open 2
		get 2 k -> get 7
		abort 2 -> ok
		abort 2 -> error 7
		open -> open 3
	`)
	if want := "version 1\nitem k 7\nitem m " + greatest + "\nitem n -" + greatest + "\nopen 1\ntrace "; !strings.Contains(r.Text(), want) {
		t.Errorf("Text: %s", r.Text())
	}
}

// TestNoTransaction names transactions that do not exist.
func TestNoTransaction(t *testing.T) {
	r := roomOf(t, plant())
	quickly(t, r, "open", "open")
	for _, number := range []string{"0", "-1", "3", "9223372036854775807", "-9223372036854775808"} {
		for _, line := range []string{"get T k", "put T k 1", "put T k 9007199254740993", "add T k 1", "add T k 9007199254740993", "remove T k", "list T a b", "commit T", "abort T"} {
			say(t, r, strings.Replace(line, "T", number, 1), "error 6")
		}
	}
}

func TestStale(t *testing.T) {
	r := roomOf(t, plant())
	talk(t, r, `
		open -> open 1
		open -> open 2
		open -> open 3
		open -> open 4
		open -> open 5
		add 1 k 1 -> add 1
		add 2 k 1 -> add 1
		put 3 k 5 -> ok
		list 4 a z -> list
		put 4 l 1 -> ok
		get 5 k -> error 6
		commit 1 -> commit 1
		commit 2 -> error 80
		commit 2 -> error 7
		commit 3 -> commit 2
		commit 4 -> error 80
		put 4 l 1 -> error 7
		commit 5 -> commit 0
		open -> open 6
		get 6 k -> get 5
		get 6 worth -> error 6
		put 6 l 1 -> ok
		carve 1 1 1:1:1 -> carve 1
		commit 6 -> error 80
		open -> open 7
		list 7 a - -> list k:5 pieces:1 worth:1
		remove 7 nothing -> error 6
		put 7 l 1 -> ok
		open -> open 8
		put 8 nothing 1 -> ok
		commit 8 -> commit 4
		commit 7 -> error 80
	`)
	if want := "version 4\nitem k 5\nitem nothing 1\nitem pieces 1\nitem worth 1\nopen 0\n"; !strings.Contains(r.Text(), want) {
		t.Errorf("Text: %s", r.Text())
	}
}

// TestOldBase reads and writes with a base that many versions lie behind.
func TestOldBase(t *testing.T) {
	r := roomOf(t, plant())
	quickly(t, r, "open", "put 1 k 1", "commit 1", "open", "open", "open", "get 3 k", "get 4 k")
	for range 40 {
		quickly(t, r, "carve 2 2 1:1:1")
	}
	talk(t, r, `
		list 2 a z -> list k:1
		get 2 k -> get 1
		put 2 l 1 -> ok
		commit 2 -> error 80
		put 3 l 1 -> ok
		commit 3 -> commit 42
		put 4 l 2 -> ok
		commit 4 -> commit 43
	`)
}

func TestMostOpen(t *testing.T) {
	r := roomOf(t, plant())
	for n := 1; n <= mostOpen; n++ {
		say(t, r, "open", fmt.Sprintf("open %d", n))
	}
	talk(t, r, `
		open -> error 5
		commit 5 -> commit 0
		open -> open 65
		open -> error 5
		abort 65 -> ok
		open -> open 66
		get 66 k -> error 6
		get 65 k -> error 7
		get 67 k -> error 6
	`)
	if !strings.Contains(r.Text(), "\nopen 64\n") {
		t.Errorf("Text: %s", r.Text())
	}
}

func TestMostWrites(t *testing.T) {
	r := roomOf(t, plant())
	quickly(t, r, "open")
	quickly(t, r, repeated("put 1 k%03d 1", 0, 256)...)
	talk(t, r, `
		put 1 l 1 -> error 5
		add 1 l 1 -> error 5
		put 1 k000 2 -> ok
		add 1 k255 2 -> add 3
		remove 1 k001 -> ok
		put 1 l 1 -> error 5
		commit 1 -> commit 1
	`)
}

func TestMostItems(t *testing.T) {
	r := roomOf(t, plant())
	fill(t, r, mostItems, 1)
	talk(t, r, `
		open -> open 17
		put 17 l 1 -> ok
		commit 17 -> error 5
		commit 17 -> error 7
		open -> open 18
		put 18 l 1 -> ok
		remove 18 k7 -> ok
		commit 18 -> commit 17
	`)
	quickly(t, r, "open")
	if got, want := r.Say("list 19 a -"), mostItems; strings.Count(got, ":1") != want || strings.Count(got, " ") != want {
		t.Errorf("list: %d keys", strings.Count(got, " "))
	}
}

func TestFind(t *testing.T) {
	r := roomOf(t, plant())
	talk(t, r, `
		find f -> find 0
		find f -> find 2
		find find -> find 2
		find d f -> find 3
		plan 1 -> error 4
		find plan 1 -> find 0
		plan -> plan 1
		find plan -> find 2
		find \n -> find 0
	`)
	say(t, r, "find   ", "find 0")
	say(t, r, "find  ", "find 12")
	say(t, r, "label aaaa", "label "+codeOf(t, "aaaa", 2))
	say(t, r, "find aa", "find 3")
	say(t, r, "find \xff", "find 0")
	say(t, r, "find \xff", "find 1")
	say(t, r, "find "+strings.Repeat("b", 600), "find 0")
	say(t, r, "find bb", "find 599")
}

// TestFindInFullTrace looks for what was removed from the trace, and for what was not.
func TestFindInFullTrace(t *testing.T) {
	r := roomOf(t, plant())
	quickly(t, r, "find first")
	for _, letter := range []string{"b", "c", "d", "e"} {
		quickly(t, r, "find "+strings.Repeat(letter, 900))
	}
	talk(t, r, "find first -> find 1")
	quickly(t, r, "find "+strings.Repeat("f", 900))
	talk(t, r, "find bb -> find 0\nfind cc -> find 899\nfind first -> find 1\nfind first -> find 2")
}
