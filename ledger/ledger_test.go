package ledger_test

import (
	"math"
	"slices"
	"strings"
	"testing"

	"silverside/api"
	"silverside/ledger"
)

// P8.1: a new ledger.
func TestNew(t *testing.T) {
	l := ledger.New()
	if l == nil || l.Version() != 0 || l.Oldest() != 0 || l.Open() != 0 {
		t.Fatalf("New: %d, %d, %d", l.Version(), l.Oldest(), l.Open())
	}
	checkAt(t, l, 0)
	for _, version := range []int{-1, 1, math.MinInt, math.MaxInt} {
		if list, e := l.At(version); len(list) != 0 || e != api.ErrRange {
			t.Errorf("At(%d): %v, %d", version, list, e)
		}
	}
	commit(t, ledger.New(), put("a", 1))
	if l.Version() != 0 {
		t.Error("two ledgers share their versions")
	}
}

// P8.1: all versions, with their keys in the order of bytes.
func TestAt(t *testing.T) {
	l := ledger.New()
	longest := strings.Repeat("\xff", longestKey)
	commit(t, l, put("b", 2), put("a", 1), put(longest, greatest), put("\x00", -greatest))
	commit(t, l, remove("b"), put("ab", 3), add("a", 4))
	commit(t, l, put("a\x00", 5), put("B", 6), put("\x80", 7), put("\x7f", 8))
	checkAt(t, l, 0)
	checkAt(t, l, 1, item("\x00", -greatest), item("a", 1), item("b", 2), item(longest, greatest))
	checkAt(t, l, 2, item("\x00", -greatest), item("a", 5), item("ab", 3), item(longest, greatest))
	checkAt(t, l, 3, item("\x00", -greatest), item("B", 6), item("a", 5), item("a\x00", 5), item("ab", 3), item("\x7f", 8), item("\x80", 7), item(longest, greatest))
	for _, version := range []int{-1, 4} {
		if list, e := l.At(version); len(list) != 0 || e != api.ErrRange {
			t.Errorf("At(%d): %v, %d", version, list, e)
		}
	}
	if n, e := l.Forget(2); n != 2 || e != api.OK || l.Oldest() != 2 || l.Version() != 3 {
		t.Errorf("Forget: %d, %d", n, e)
	}
	for _, version := range []int{0, 1} {
		if list, e := l.At(version); len(list) != 0 || e != api.ErrRange {
			t.Errorf("At(%d): %v, %d", version, list, e)
		}
	}
}

// P8.1: the number of open transactions.
func TestOpen(t *testing.T) {
	l := ledger.New()
	var list []*ledger.Tx
	for n := range 5 {
		list = append(list, begin(t, l))
		if l.Open() != n+1 {
			t.Errorf("Open: %d", l.Open())
		}
	}
	checkCall(t, list[0], add("a", 1), number(1))
	checkCall(t, list[1], add("a", 1), number(1))
	checkCommit(t, list[0], 1, api.OK)
	checkCommit(t, list[1], 0, api.ErrStale)
	checkCommit(t, list[2], 0, api.OK)
	if l.Open() != 2 || list[3].Abort() != api.OK || l.Open() != 1 {
		t.Errorf("Open: %d", l.Open())
	}
	for _, x := range list[:4] {
		x.Commit()
		x.Abort()
	}
	if l.Open() != 1 {
		t.Errorf("Open after ended transactions ended again: %d", l.Open())
	}
}

// Rule 3: unusable ledgers.
func TestUnusableLedger(t *testing.T) {
	for _, l := range []*ledger.Ledger{nil, {}} {
		if l.Version() != 0 || l.Oldest() != 0 || l.Open() != 0 {
			t.Errorf("numbers: %d, %d, %d", l.Version(), l.Oldest(), l.Open())
		}
		for _, version := range []int{-1, 0, 1} {
			if list, e := l.At(version); len(list) != 0 || e != api.ErrUnusable {
				t.Errorf("At: %v, %d", list, e)
			}
			if x, e := l.BeginAt(version); x != nil || e != api.ErrUnusable {
				t.Errorf("BeginAt: %v, %d", x, e)
			}
			if list, e := l.Changes(version, version); len(list) != 0 || e != api.ErrUnusable {
				t.Errorf("Changes: %v, %d", list, e)
			}
			if n, e := l.Forget(version); n != 0 || e != api.ErrUnusable {
				t.Errorf("Forget: %d, %d", n, e)
			}
		}
		if x, e := l.Begin(); x != nil || e != api.ErrUnusable {
			t.Errorf("Begin: %v, %d", x, e)
		}
	}
}

// Rule 3: unusable transactions.
func TestUnusableTx(t *testing.T) {
	for _, x := range []*ledger.Tx{nil, {}} {
		if x.Base() != 0 {
			t.Errorf("Base: %d", x.Base())
		}
		for _, c := range everyCall() {
			checkCall(t, x, c, fails(api.ErrUnusable))
		}
	}
}

// everyCall is each function of a transaction, with valid and with invalid arguments.
func everyCall() []call {
	return []call{
		get("a"), get(""), scan("", "", 9), scan("b", "a", -1), put("a", 1), put("", 1), put("a", greatest+1),
		add("a", 1), add("", 1), add("a", greatest+1), remove("a"), remove("z"), remove(""), {name: "commit"}, {name: "abort"},
	}
}

// Rule 5: results are new memory, and no result or object changes with another one.
func TestResultsAreNew(t *testing.T) {
	l := ledger.New()
	commit(t, l, put("a", 1), put("b", 2), put("c", 3))
	x := begin(t, l)
	checkCall(t, x, put("d", 4), result{})
	for range 2 {
		at, _ := l.At(1)
		scanned, _ := x.Scan("", "", 9)
		changes, _ := l.Changes(0, 1)
		if len(at) != 3 || at[0] != item("a", 1) || len(scanned) != 4 || scanned[3] != item("d", 4) || len(changes) != 3 || changes[2].To != 3 {
			t.Fatalf("results: %v, %v, %v", at, scanned, changes)
		}
		clear(at)
		clear(scanned)
		clear(changes)
		_ = append(at[:1], item("x", 1))
		_ = slices.Insert(scanned[:2], 1, item("y", 1))
	}
	checkCommit(t, x, 2, api.OK)
	checkAt(t, l, 1, item("a", 1), item("b", 2), item("c", 3))
	checkAt(t, l, 2, item("a", 1), item("b", 2), item("c", 3), item("d", 4))
}
