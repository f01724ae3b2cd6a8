package ledger_test

import (
	"cmp"
	"math"
	"slices"
	"testing"

	"silverside/api"
	"silverside/ledger"
)

// P8.5: in what two versions differ, both ways.
func TestChanges(t *testing.T) {
	l := ledger.New()
	commit(t, l, put("same", 1), put("zero", 0), put("gone", 3), put("new", -4))
	commit(t, l, put("same", 1), remove("zero"), put("gone", 0), put("a", 5))
	commit(t, l, put("zero", 0), remove("gone"), add("new", greatest), put("\xff", 0))
	for _, s := range []struct {
		from, to int
		want     []api.Change
	}{
		{0, 0, nil},
		{2, 2, nil},
		{0, 1, []api.Change{{Key: "gone", Is: true, To: 3}, {Key: "new", Is: true, To: -4}, {Key: "same", Is: true, To: 1}, {Key: "zero", Is: true}}},
		{1, 2, []api.Change{{Key: "a", Is: true, To: 5}, {Key: "gone", Was: true, Is: true, From: 3}, {Key: "zero", Was: true}}},
		{2, 1, []api.Change{{Key: "a", Was: true, From: 5}, {Key: "gone", Was: true, Is: true, To: 3}, {Key: "zero", Is: true}}},
		{1, 3, []api.Change{{Key: "a", Is: true, To: 5}, {Key: "gone", Was: true, From: 3}, {Key: "new", Was: true, Is: true, From: -4, To: greatest - 4}, {Key: "\xff", Is: true}}},
		{3, 2, []api.Change{{Key: "gone", Is: true}, {Key: "new", Was: true, Is: true, From: greatest - 4, To: -4}, {Key: "zero", Was: true}, {Key: "\xff", Was: true}}},
	} {
		if got, e := l.Changes(s.from, s.to); e != api.OK || !slices.Equal(got, s.want) {
			t.Errorf("Changes(%d, %d): %v, %d", s.from, s.to, got, e)
		}
	}
}

// P8.5: versions that are not there, as the former and as the latter one.
func TestChangesErrors(t *testing.T) {
	l := ledger.New()
	for n := range 4 {
		commit(t, l, put("a", n))
	}
	l.Forget(2)
	for _, version := range []int{-1, 0, 1, 5, math.MinInt, math.MaxInt} {
		for _, pair := range [][2]int{{version, 3}, {3, version}, {version, version}} {
			if list, e := l.Changes(pair[0], pair[1]); len(list) != 0 || e != api.ErrRange {
				t.Errorf("Changes(%v): %v, %d", pair, list, e)
			}
		}
	}
	for from := 2; from <= 4; from++ {
		for to := 2; to <= 4; to++ {
			list, e := l.Changes(from, to)
			if want := from != to; e != api.OK || (len(list) == 1) != want {
				t.Errorf("Changes(%d, %d): %v, %d", from, to, list, e)
			}
		}
	}
}

// P8.5: large states that have much, little or nothing in common.
func TestLargeChanges(t *testing.T) {
	l := ledger.New()
	fill(t, l, 0, mostItems)
	full := l.Version()
	commit(t, l, put(keyOf(1001), -1))
	for first := 0; first < mostItems; first += mostWrites {
		var calls []call
		for n := range mostWrites {
			calls = append(calls, remove(keyOf(first+n)))
		}
		commit(t, l, calls...)
	}
	empty := l.Version()
	checkAt(t, l, empty)
	for n := mostItems - 1; n >= 0; n -= 2 {
		commit(t, l, put(keyOf(n), n))
	}
	last := l.Version()
	for _, s := range []struct{ from, to, want int }{
		{0, empty, 0}, {0, full, mostItems}, {full, 0, mostItems}, {full, full + 1, 1}, {full, empty, mostItems},
		{full, last, mostItems / 2}, {full + 1, last, mostItems/2 + 1}, {last, full, mostItems / 2}, {empty, last, mostItems / 2},
		{last - 1, last, 1}, {last - 100, last, 100}, {last - 1000, last - 10, 990},
	} {
		list, e := l.Changes(s.from, s.to)
		inOrder := slices.IsSortedFunc(list, func(a, b api.Change) int { return cmp.Compare(a.Key, b.Key) })
		if e != api.OK || len(list) != s.want || !inOrder {
			t.Errorf("Changes(%d, %d): %d, %d, not %d", s.from, s.to, len(list), e, s.want)
		}
	}
	if list, _ := l.Changes(full, full+1); !slices.Equal(list, []api.Change{{Key: keyOf(1001), Was: true, Is: true, From: 1001, To: -1}}) {
		t.Errorf("Changes: %v", list)
	}
}

// P8.5: the oldest version moves on, never back, and never beyond the current one.
func TestForget(t *testing.T) {
	l := ledger.New()
	for n := range 6 {
		commit(t, l, put("a", n))
	}
	for _, s := range []struct {
		version, oldest int
		e               api.Errno
	}{
		{0, 0, api.OK}, {-1, 0, api.ErrRange}, {7, 0, api.ErrRange}, {math.MinInt, 0, api.ErrRange}, {math.MaxInt, 0, api.ErrRange},
		{2, 2, api.OK}, {2, 2, api.OK}, {0, 2, api.OK}, {1, 2, api.OK}, {3, 3, api.OK}, {-1, 3, api.ErrRange}, {6, 6, api.OK}, {6, 6, api.OK}, {5, 6, api.OK}, {7, 6, api.ErrRange},
	} {
		want := s.oldest
		if s.e != api.OK {
			want = 0
		}
		if n, e := l.Forget(s.version); n != want || e != s.e || l.Oldest() != s.oldest || l.Version() != 6 {
			t.Errorf("Forget(%d): %d, %d; oldest %d", s.version, n, e, l.Oldest())
		}
		for version := range 7 {
			_, e := l.At(version)
			if (e == api.OK) != (version >= s.oldest) {
				t.Errorf("At(%d): %d, oldest %d", version, e, s.oldest)
			}
		}
	}
	checkAt(t, l, 6, item("a", 5))
	commit(t, l, put("a", 6))
	checkAt(t, l, 6, item("a", 5))
	if n, e := l.Forget(7); n != 7 || e != api.OK {
		t.Errorf("Forget: %d, %d", n, e)
	}
}

// P8.5, P8.7: open transactions hold their bases, and no ended ones do.
func TestForgetKeepsBases(t *testing.T) {
	l := ledger.New()
	for n := range 6 {
		commit(t, l, put("a", n))
	}
	list := []*ledger.Tx{beginAt(t, l, 4), beginAt(t, l, 2), beginAt(t, l, 2), beginAt(t, l, 3)}
	forget := func(version, want int) {
		t.Helper()
		if n, e := l.Forget(version); n != want || e != api.OK || l.Oldest() != want {
			t.Errorf("Forget(%d): %d, %d, not %d", version, n, e, want)
		}
	}
	forget(1, 1)
	forget(6, 2)
	checkCall(t, list[1], get("a"), number(1))
	checkCommit(t, list[1], 2, api.OK)
	forget(6, 2)
	checkAt(t, l, 2, item("a", 1))
	beginAt(t, l, 2).Abort()
	checkCall(t, list[2], add("a", 1), number(2))
	checkCommit(t, list[2], 0, api.ErrStale)
	forget(6, 3)
	checkCall(t, list[3], scan("", "", 9), items(item("a", 2)))
	if list[0].Abort() != api.OK {
		t.Error("Abort")
	}
	forget(6, 3)
	checkCall(t, list[3], put("b", 1), result{})
	commit(t, l, put("c", 1))
	checkCommit(t, list[3], 0, api.ErrStale)
	forget(6, 6)
	x := begin(t, l)
	forget(7, 7)
	commit(t, l, remove("a"))
	forget(8, 7)
	checkCall(t, x, get("a"), number(5))
}
