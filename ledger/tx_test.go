package ledger_test

import (
	"math"
	"strings"
	"testing"

	"silverside/api"
	"silverside/ledger"
)

// P8.2: transactions of the current version and of others.
func TestBegin(t *testing.T) {
	l := ledger.New()
	commit(t, l, put("a", 1))
	commit(t, l, put("a", 2))
	commit(t, l, put("a", 3))
	for version := range 4 {
		x := beginAt(t, l, version)
		want := number(version)
		if version == 0 {
			want = fails(api.ErrNone)
		}
		checkCall(t, x, get("a"), want)
	}
	x := begin(t, l)
	commit(t, l, put("a", 4))
	checkCall(t, x, get("a"), number(3))
	if x.Base() != 3 || l.Open() != 5 {
		t.Errorf("Base: %d, Open: %d", x.Base(), l.Open())
	}
	for _, version := range []int{-1, 5, math.MinInt, math.MaxInt} {
		if x, e := l.BeginAt(version); x != nil || e != api.ErrRange {
			t.Errorf("BeginAt(%d): %d", version, e)
		}
	}
}

// P8.2: versions that are forgotten, and the order of the errors of BeginAt.
func TestBeginErrors(t *testing.T) {
	l := ledger.New()
	fill(t, l, 0, 1)
	fill(t, l, 1, 2)
	l.Forget(1)
	var list []*ledger.Tx
	for n := range mostOpen {
		list = append(list, beginAt(t, l, 1+n%2))
	}
	before := view(l)
	for version, want := range []api.Errno{api.ErrRange, api.ErrFull, api.ErrFull, api.ErrRange} {
		if x, e := l.BeginAt(version); x != nil || e != want {
			t.Errorf("BeginAt(%d): %d, not %d", version, e, want)
		}
	}
	if x, e := l.Begin(); x != nil || e != api.ErrFull {
		t.Errorf("Begin: %d", e)
	}
	if view(l) != before || l.Open() != mostOpen {
		t.Error("an error has an effect")
	}
	for n, end := range []func() api.Errno{
		list[0].Abort,
		func() api.Errno { _, e := list[1].Commit(); return e },
	} {
		if e := end(); e != api.OK {
			t.Errorf("end %d: %d", n, e)
		}
		begin(t, l)
		if x, e := l.Begin(); x != nil || e != api.ErrFull {
			t.Errorf("Begin: %d", e)
		}
	}
}

// P8.2, P8.7: Abort has no effect.
func TestAbort(t *testing.T) {
	l := ledger.New()
	commit(t, l, put("a", 1), put("b", 2))
	before := view(l)
	x := begin(t, l)
	for _, c := range []call{put("a", 9), remove("b"), add("c", 3)} {
		if r := callOf(x, c); r.e != api.OK {
			t.Errorf("%v: %d", c, r.e)
		}
	}
	if x.Abort() != api.OK || view(l) != before {
		t.Errorf("Abort: %s", view(l))
	}
	commit(t, l, put("d", 4))
	checkAt(t, l, 2, item("a", 1), item("b", 2), item("d", 4))
}

// P8.2 to P8.4: every call of an ended transaction, however it has ended.
func TestEnded(t *testing.T) {
	l := ledger.New()
	commit(t, l, put("a", 1))
	aborted, read, written, stale, full := begin(t, l), begin(t, l), begin(t, l), begin(t, l), begin(t, l)
	for _, x := range []*ledger.Tx{aborted, read, written, stale} {
		checkCall(t, x, get("a"), number(1))
	}
	for _, x := range []*ledger.Tx{aborted, written, stale, full} {
		checkCall(t, x, put("a", 2), result{})
		checkCall(t, x, put("z", 2), result{})
	}
	if e := aborted.Abort(); e != api.OK {
		t.Errorf("Abort: %d", e)
	}
	checkCommit(t, read, 1, api.OK)
	checkCommit(t, written, 2, api.OK)
	checkCommit(t, stale, 0, api.ErrStale)
	commit(t, l, remove("z"))
	fill(t, l, 0, mostItems-1)
	checkCommit(t, full, 0, api.ErrFull)
	before := view(l)
	for _, x := range []*ledger.Tx{aborted, read, written, stale, full} {
		for _, c := range everyCall() {
			checkCall(t, x, c, fails(api.ErrState))
		}
		if x.Base() != 1 {
			t.Errorf("Base: %d", x.Base())
		}
	}
	if view(l) != before || l.Open() != 0 {
		t.Error("an ended transaction has an effect")
	}
}

// P8.3: a transaction sees its base, changed by its writes.
func TestReadAndWrite(t *testing.T) {
	l := ledger.New()
	commit(t, l, put("a", 1), put("b", 2), put("c", 3))
	x, other := begin(t, l), begin(t, l)
	steps := []struct {
		call
		want result
	}{
		{get("a"), number(1)},
		{get("d"), fails(api.ErrNone)},
		{put("a", 10), result{}},
		{get("a"), number(10)},
		{put("a", 0), result{}},
		{get("a"), number(0)},
		{put("d", 4), result{}},
		{get("d"), number(4)},
		{remove("b"), result{}},
		{get("b"), fails(api.ErrNone)},
		{remove("b"), fails(api.ErrNone)},
		{remove("e"), fails(api.ErrNone)},
		{scan("", "", 9), items(item("a", 0), item("c", 3), item("d", 4))},
		{remove("d"), result{}},
		{remove("d"), fails(api.ErrNone)},
		{add("d", 7), number(7)},
		{add("b", -7), number(-7)},
		{add("c", 7), number(10)},
		{add("c", -11), number(-1)},
		{add("a", 0), number(0)},
		{add("f", 0), number(0)},
		{get("f"), number(0)},
		{scan("", "", 9), items(item("a", 0), item("b", -7), item("c", -1), item("d", 7), item("f", 0))},
	}
	for _, s := range steps {
		checkCall(t, x, s.call, s.want)
	}
	checkCall(t, other, scan("", "", 9), items(item("a", 1), item("b", 2), item("c", 3)))
	checkCommit(t, x, 2, api.OK)
	checkCall(t, other, scan("", "", 9), items(item("a", 1), item("b", 2), item("c", 3)))
	checkAt(t, l, 2, item("a", 0), item("b", -7), item("c", -1), item("d", 7), item("f", 0))
}

// P8.3: ranges, with bounds that are there or not, that are empty, longer than a key, or the wrong way round.
func TestScan(t *testing.T) {
	l := ledger.New()
	commit(t, l, put("a", 1), put("ab", 2), put("b", 3), put("\xff", 4))
	x := begin(t, l)
	checkCall(t, x, put("aa", 5), result{})
	checkCall(t, x, remove("b"), result{})
	a, aa, ab, end := item("a", 1), item("aa", 5), item("ab", 2), item("\xff", 4)
	long := strings.Repeat("a", 100)
	for _, s := range []struct {
		call
		want result
	}{
		{scan("", "", 9), items(a, aa, ab, end)},
		{scan("", "", 4), items(a, aa, ab, end)},
		{scan("", "", 3), items(a, aa, ab)},
		{scan("", "", 1), items(a)},
		{scan("", "", 0), items()},
		{scan("", "", -1), items()},
		{scan("", "", math.MinInt), items()},
		{scan("", "", math.MaxInt), items(a, aa, ab, end)},
		{scan("a", "", 9), items(a, aa, ab, end)},
		{scan("a\x00", "", 9), items(aa, ab, end)},
		{scan("b", "", 9), items(end)},
		{scan("\xff", "", 9), items(end)},
		{scan("\xff\x00", "", 9), items()},
		{scan("", "\xff", 9), items(a, aa, ab)},
		{scan("", "a", 9), items()},
		{scan("", "a\x00", 9), items(a)},
		{scan("", "\x00", 9), items()},
		{scan("a", "ab", 9), items(a, aa)},
		{scan("a", "ab", 1), items(a)},
		{scan("aa", "b", 9), items(aa, ab)},
		{scan("a", "a", 9), items()},
		{scan("b", "a", 9), items()},
		{scan("\xff", "a", 9), items()},
		{scan(long, "", 9), items(ab, end)},
		{scan("", long, 9), items(a, aa)},
		{scan(strings.Repeat("\xff", 1<<20), "", 9), items()},
		{scan("", strings.Repeat("\xff", 1<<20), 9), items(a, aa, ab, end)},
	} {
		checkCall(t, x, s.call, s.want)
	}
}

// P8.3: what is a key, and what is a value.
func TestKeysAndValues(t *testing.T) {
	l := ledger.New()
	x := begin(t, l)
	for _, key := range []string{"", strings.Repeat("a", longestKey+1), strings.Repeat("a", 1<<20)} {
		for _, c := range []call{get(key), put(key, 1), put(key, greatest+1), add(key, 1), add(key, greatest+1), remove(key)} {
			checkCall(t, x, c, fails(api.ErrArg))
		}
	}
	for _, key := range []string{"a", "\x00", "\n", " ", "\xff\xfe", strings.Repeat("\x00", longestKey), strings.Repeat("é", longestKey/2)} {
		checkCall(t, x, get(key), fails(api.ErrNone))
		checkCall(t, x, remove(key), fails(api.ErrNone))
		checkCall(t, x, put(key, 1), result{})
		checkCall(t, x, add(key, 1), number(2))
		checkCall(t, x, remove(key), result{})
	}
	for _, value := range []int{greatest + 1, -greatest - 1, math.MaxInt, math.MinInt} {
		checkCall(t, x, put("v", value), fails(api.ErrArg))
		checkCall(t, x, add("v", value), fails(api.ErrArg))
		checkCall(t, x, get("v"), fails(api.ErrNone))
	}
	for _, value := range []int{greatest, -greatest, 0} {
		checkCall(t, x, put("v", value), result{})
		checkCall(t, x, get("v"), number(value))
		checkCall(t, x, add("v", -value), number(0))
		checkCall(t, x, add("v", value), number(value))
	}
}

// P8.3: sums that are not values have no effect but that the key has been read.
func TestSums(t *testing.T) {
	l := ledger.New()
	commit(t, l, put("max", greatest), put("min", -greatest))
	x := begin(t, l)
	for _, s := range []struct {
		call
		want result
	}{
		{add("max", 1), fails(api.ErrArg)},
		{add("max", greatest), fails(api.ErrArg)},
		{add("min", -1), fails(api.ErrArg)},
		{add("min", -greatest), fails(api.ErrArg)},
		{get("max"), number(greatest)},
		{get("min"), number(-greatest)},
		{add("max", 0), number(greatest)},
		{add("max", -greatest), number(0)},
		{add("max", -greatest), number(-greatest)},
		{add("min", greatest), number(0)},
		{add("min", greatest), number(greatest)},
	} {
		checkCall(t, x, s.call, s.want)
	}
}

// P8.3: a transaction that has written as many keys as it may.
func TestMostWrites(t *testing.T) {
	l := ledger.New()
	commit(t, l, put("old", 1), put("max", greatest))
	x := begin(t, l)
	for n := range mostWrites {
		checkCall(t, x, put(keyOf(n), n), result{})
	}
	before, _ := x.Scan("", "", greatest)
	for _, s := range []struct {
		call
		want result
	}{
		{put("new", 1), fails(api.ErrFull)},
		{put("old", 1), fails(api.ErrFull)},
		{add("new", 1), fails(api.ErrFull)},
		{add("old", 1), fails(api.ErrFull)},
		{remove("old"), fails(api.ErrFull)},
		{remove("new"), fails(api.ErrNone)},
		{put("", 1), fails(api.ErrArg)},
		{put("new", greatest+1), fails(api.ErrArg)},
		{add("max", 1), fails(api.ErrArg)},
		{get("old"), number(1)},
	} {
		checkCall(t, x, s.call, s.want)
	}
	checkCall(t, x, scan("", "", greatest), items(before...))
	checkCall(t, x, put(keyOf(0), 7), result{})
	checkCall(t, x, add(keyOf(1), 7), number(8))
	checkCall(t, x, remove(keyOf(2)), result{})
	checkCall(t, x, put("new", 1), fails(api.ErrFull)) // a removed key is written, too
	checkCall(t, x, add(keyOf(2), 5), number(5))
	checkCall(t, x, remove(keyOf(2)), result{})
	checkCommit(t, x, 2, api.OK)
	list, _ := l.At(2)
	if len(list) != mostWrites+1 || list[0] != item(keyOf(0), 7) || list[1] != item(keyOf(1), 8) || list[2] != item(keyOf(3), 3) {
		t.Errorf("At: %d, %v", len(list), list[:3])
	}
}

// P8.3: keys that are removed count as written, whether or not the base has them.
func TestMostRemovals(t *testing.T) {
	l := ledger.New()
	fill(t, l, 0, mostWrites+1)
	x := begin(t, l)
	for n := range mostWrites - 1 {
		checkCall(t, x, remove(keyOf(n)), result{})
	}
	checkCall(t, x, put("new", 1), result{})
	checkCall(t, x, remove("new"), result{})
	for _, key := range []string{keyOf(mostWrites - 1), keyOf(mostWrites)} {
		checkCall(t, x, remove(key), fails(api.ErrFull))
	}
	checkCall(t, x, remove("newer"), fails(api.ErrNone))
	checkCall(t, x, scan("", "", 9), items(item(keyOf(mostWrites-1), mostWrites-1), item(keyOf(mostWrites), mostWrites)))
}
