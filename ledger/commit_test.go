package ledger_test

import (
	"testing"

	"silverside/api"
	"silverside/ledger"
)

// The chapter's first and second example.
func TestExamples(t *testing.T) {
	l := ledger.New()
	x := begin(t, l)
	checkCall(t, x, add("k", 5), number(5))
	checkCommit(t, x, 1, api.OK)
	y, z, blind := begin(t, l), begin(t, l), begin(t, l)
	checkCall(t, y, add("k", 1), number(6))
	checkCall(t, z, add("k", 1), number(6))
	checkCall(t, blind, put("k", 1), result{})
	checkCommit(t, y, 2, api.OK)
	checkCommit(t, z, 0, api.ErrStale)
	checkCommit(t, blind, 3, api.OK)
	checkAt(t, l, 2, item("k", 6))
	checkAt(t, l, 3, item("k", 1))
}

// P8.4: writes change the current version, not the base.
func TestCommitChangesCurrent(t *testing.T) {
	l := ledger.New()
	commit(t, l, put("a", 1), put("b", 1), put("c", 1))
	x := begin(t, l)
	checkCall(t, x, put("a", 2), result{})
	checkCall(t, x, remove("c"), result{})
	commit(t, l, put("b", 3), put("d", 3), put("a", 3))
	checkCommit(t, x, 3, api.OK)
	checkAt(t, l, 1, item("a", 1), item("b", 1), item("c", 1))
	checkAt(t, l, 2, item("a", 3), item("b", 3), item("c", 1), item("d", 3))
	checkAt(t, l, 3, item("a", 2), item("b", 3), item("d", 3))
}

// P8.4: a transaction without writes makes no version, and is never stale.
func TestCommitWithoutWrites(t *testing.T) {
	l := ledger.New()
	commit(t, l, put("a", 1))
	for version := range 2 {
		for _, c := range []call{get("b"), get("a"), scan("", "", 9), remove("b"), add("a", greatest+1), put("", 1), put("a", greatest+1)} {
			x := beginAt(t, l, version)
			callOf(x, c)
			last := l.Version()
			commit(t, l, add("a", 1), add("b", 1))
			checkCommit(t, x, version, api.OK)
			if l.Version() != last+1 {
				t.Errorf("%v: a commit without writes makes version %d", c, l.Version())
			}
			commit(t, l, remove("b"))
		}
	}
}

// P8.4: a version is made even if nothing differs.
func TestCommitOfNothingNew(t *testing.T) {
	l := ledger.New()
	commit(t, l, put("a", 1))
	for _, calls := range [][]call{
		{put("a", 1)},
		{add("a", 0)},
		{put("b", 1), remove("b")},
		{remove("a"), put("a", 1)},
	} {
		before, _ := l.At(l.Version())
		reader := begin(t, l)
		checkCall(t, reader, scan("", "", 9), items(item("a", 1)))
		checkCall(t, reader, put("a", 1), result{})
		commit(t, l, calls...)
		checkAt(t, l, l.Version(), before...)
		checkCommit(t, reader, l.Version()+1, api.OK)
	}
	x, y := begin(t, l), begin(t, l)
	checkCall(t, x, remove("a"), result{})
	checkCall(t, y, put("a", 2), result{})
	checkCall(t, y, remove("a"), result{})
	checkCommit(t, x, l.Version()+1, api.OK)
	checkCommit(t, y, 0, api.ErrStale)
	z := beginAt(t, l, l.Version()-1)
	checkCall(t, z, put("a", 2), result{})
	checkCommit(t, z, l.Version()+1, api.OK)
}

// P8.4: what makes a transaction stale that has read and written, and what does not.
func TestStale(t *testing.T) {
	for _, s := range []struct {
		read    call
		others  []call
		isStale bool
	}{
		{get("b"), []call{put("b", 9)}, true},
		{get("b"), []call{remove("b")}, true},
		{get("b"), []call{put("a", 9), put("c", 9), put("bb", 9), remove("d")}, false},
		{get("b"), []call{put("b", 2)}, false},
		{get("b"), []call{add("b", 0)}, false},
		{get("b"), []call{remove("b"), put("b", 2)}, false},
		{get("e"), []call{put("e", 0)}, true},
		{get("e"), []call{put("e", 1), remove("e")}, false},
		{get("e"), []call{put("f", 1)}, false},
		{remove("e"), []call{put("e", 1)}, true},
		{remove("b"), []call{put("b", 9)}, true},
		{remove("b"), []call{put("c", 9)}, false},
		{add("b", 1), []call{put("b", 9)}, true},
		{add("b", 0), []call{put("c", 9)}, false},
		{add("e", 1), []call{put("e", 1)}, true},
		{add("m", 1), []call{put("m", 1)}, true},
		{add("m", greatest+1), []call{put("m", 1)}, false},
		{get(""), []call{put("b", 1)}, false},
		{put("b", 7), []call{put("b", 9)}, false},
		{put("b", greatest+1), []call{put("b", 9)}, false},
		{scan("", "", 9), []call{put("e", 1)}, true},
		{scan("", "", 9), []call{put("\x00", 1)}, true},
		{scan("", "", 9), []call{remove("d")}, true},
		{scan("", "", 9), []call{put("a", 9)}, true},
		{scan("", "", 9), []call{put("a", 1), add("b", 0)}, false},
		{scan("", "", 1), []call{put("e", 1)}, true},
		{scan("", "", 0), []call{put("e", 1)}, true},
		{scan("", "", -9), []call{put("e", 1)}, true},
		{scan("b", "d", 9), []call{put("b", 9)}, true},
		{scan("b", "d", 9), []call{put("cc", 9)}, true},
		{scan("b", "d", 9), []call{put("d", 9)}, false},
		{scan("b", "d", 9), []call{put("a", 9), put("az", 9), remove("d"), put("d\x00", 9)}, false},
		{scan("b", "", 9), []call{put("\xff", 9)}, true},
		{scan("b", "", 9), []call{remove("a")}, false},
		{scan("", "b", 9), []call{remove("a")}, true},
		{scan("", "b", 9), []call{remove("b")}, false},
		{scan("b", "b", 9), []call{remove("b")}, false},
		{scan("d", "b", 9), []call{remove("b"), remove("c"), remove("d")}, false},
	} {
		l := ledger.New()
		commit(t, l, put("a", 1), put("b", 2), put("c", 3), put("d", 4), put("m", greatest))
		x := begin(t, l)
		checkCall(t, x, put("own", 1), result{})
		callOf(x, s.read)
		commit(t, l, s.others...)
		before := view(l)
		version, e := x.Commit()
		if s.isStale {
			if version != 0 || e != api.ErrStale || x.Abort() != api.ErrState || l.Open() != 0 {
				t.Errorf("%v, %v: Commit %d, %d", s.read, s.others, version, e)
			}
			commit(t, l, put("z", 0))
			commit(t, l, remove("z"))
			if got, _ := l.Changes(2, 4); len(got) != 0 {
				t.Errorf("%v: a stale transaction has changed %v", s.read, got)
			}
		} else if version != 3 || e != api.OK || view(l) == before {
			t.Errorf("%v, %v: Commit %d, %d", s.read, s.others, version, e)
		}
	}
}

// P8.4: changes that were undone count, as each version is compared with the one before it.
func TestStaleByUndone(t *testing.T) {
	for _, read := range []call{get("a"), get("b"), scan("", "b", 9), scan("b", "", 0)} {
		l := ledger.New()
		commit(t, l, put("a", 1))
		x, blind := begin(t, l), begin(t, l)
		callOf(x, read)
		checkCall(t, x, put("z", 1), result{})
		checkCall(t, blind, put("z", 1), result{})
		commit(t, l, put("a", 2), put("b", 2))
		commit(t, l, put("a", 1), remove("b"))
		if list, _ := l.Changes(1, 3); len(list) != 0 {
			t.Errorf("Changes: %v", list)
		}
		later := begin(t, l)
		callOf(later, read)
		checkCall(t, later, put("a", 1), result{})
		checkCommit(t, x, 0, api.ErrStale)
		checkCommit(t, later, 4, api.OK)
		checkCommit(t, blind, 5, api.OK)
	}
}

// P8.4: changes up to the base do not count, nor do the writes of the transaction itself, or of one that has failed.
func TestNotStale(t *testing.T) {
	l := ledger.New()
	commit(t, l, put("a", 1))
	commit(t, l, put("a", 2))
	old, x := beginAt(t, l, 1), beginAt(t, l, 2)
	checkCall(t, old, add("a", 1), number(2))
	checkCall(t, x, add("a", 1), number(3))
	checkCall(t, x, add("a", 1), number(4))
	aborted := begin(t, l)
	checkCall(t, aborted, put("a", 9), result{})
	if aborted.Abort() != api.OK {
		t.Error("Abort")
	}
	checkCommit(t, old, 0, api.ErrStale)
	checkCommit(t, x, 3, api.OK)
}

// P8.3, P8.4: calls that fail after they have read.
func TestReadThoughFailed(t *testing.T) {
	for _, read := range []call{add("m", 1), remove("absent"), get("absent"), add("full", 1), remove("full")} {
		l := ledger.New()
		commit(t, l, put("m", greatest), put("full", 1))
		x := begin(t, l)
		for n := range mostWrites {
			checkCall(t, x, put(keyOf(n), 1), result{})
		}
		if r := callOf(x, read); r.e == api.OK || r.n != 0 {
			t.Errorf("%v: %v", read, r)
		}
		commit(t, l, put(read.lo, 2))
		checkCommit(t, x, 0, api.ErrStale)
	}
	for _, write := range []call{put("full", 1), put("m", 1)} {
		l := ledger.New()
		commit(t, l, put("full", 1))
		x := begin(t, l)
		for n := range mostWrites {
			checkCall(t, x, put(keyOf(n), 1), result{})
		}
		checkCall(t, x, write, fails(api.ErrFull))
		commit(t, l, put(write.lo, 2))
		checkCommit(t, x, 3, api.OK)
	}
}

// P8.3: a key is read by Get even where the transaction has written it before.
func TestReadOwnWrite(t *testing.T) {
	for _, calls := range [][]call{
		{put("a", 1), get("a")},
		{put("a", 1), add("a", 1)},
		{put("a", 1), remove("a")},
		{put("a", 1), scan("a", "b", 1)},
	} {
		l := ledger.New()
		x := begin(t, l)
		for _, c := range calls {
			if r := callOf(x, c); r.e != api.OK {
				t.Errorf("%v: %v", c, r)
			}
		}
		commit(t, l, put("a", 5))
		checkCommit(t, x, 0, api.ErrStale)
	}
}

// P8.4: states with as many keys as there may be, and more.
func TestMostItems(t *testing.T) {
	l := ledger.New()
	fill(t, l, 0, mostItems-1)
	last := l.Version()
	one, two, swap, changed, read := begin(t, l), begin(t, l), begin(t, l), begin(t, l), begin(t, l)
	checkCall(t, two, put("x", 1), result{})
	checkCall(t, two, put("y", 1), result{})
	checkCommit(t, two, 0, api.ErrFull)
	checkCall(t, one, put("x", 1), result{})
	checkCommit(t, one, last+1, api.OK)
	if list, _ := l.At(last + 1); len(list) != mostItems || list[mostItems-1] != item("x", 1) {
		t.Errorf("At: %d", len(list))
	}
	checkCall(t, read, get("y"), fails(api.ErrNone))
	checkCall(t, read, put("y", 1), result{})
	checkCommit(t, read, 0, api.ErrFull)
	if l.Version() != last+1 || l.Open() != 2 {
		t.Errorf("Version: %d, Open: %d", l.Version(), l.Open())
	}
	checkCall(t, changed, put(keyOf(5), -5), result{})
	checkCommit(t, changed, last+2, api.OK)
	checkCall(t, swap, put("y", 1), result{})
	checkCall(t, swap, remove(keyOf(0)), result{})
	checkCommit(t, swap, last+3, api.OK)
	stale := beginAt(t, l, last)
	checkCall(t, stale, get("x"), fails(api.ErrNone))
	checkCall(t, stale, put("z", 1), result{})
	checkCommit(t, stale, 0, api.ErrStale)
	old := beginAt(t, l, 0)
	checkCall(t, old, put("z", 1), result{})
	checkCommit(t, old, 0, api.ErrFull)
	list, e := l.At(l.Version())
	if len(list) != mostItems || e != api.OK || list[0] != item(keyOf(1), 1) || list[mostItems-1] != item("y", 1) {
		t.Errorf("At: %d, %d", len(list), e)
	}
}

// P8.4: what a transaction sees may have more keys than a state.
func TestSeesMoreThanMostItems(t *testing.T) {
	l := ledger.New()
	fill(t, l, 0, mostItems)
	x := begin(t, l)
	for n := range mostWrites {
		checkCall(t, x, put("x"+keyOf(n), n), result{})
	}
	if list, e := x.Scan("", "", greatest); len(list) != mostItems+mostWrites || e != api.OK {
		t.Errorf("Scan: %d, %d", len(list), e)
	}
	checkCommit(t, x, 0, api.ErrFull)
}
