package ledger_test

import (
	"fmt"
	"slices"
	"strings"
	"testing"

	"silverside/api"
	"silverside/ledger"
)

// The chapter's limits.
const (
	mostOpen   = 64
	mostWrites = 256
	mostItems  = 4096
	longestKey = 32
	greatest   = 1 << 53
)

// call is a call of a transaction: the name of the function, and its arguments. A key is in lo.
type call struct {
	name   string
	lo, hi string
	n      int
}

// result is what a call returns.
type result struct {
	n     int
	items []api.Item
	e     api.Errno
}

func (r result) String() string {
	return fmt.Sprint(r.n, r.items, r.e)
}

func same(a, b result) bool {
	return a.n == b.n && slices.Equal(a.items, b.items) && a.e == b.e
}

func get(key string) call            { return call{name: "get", lo: key} }
func put(key string, value int) call { return call{name: "put", lo: key, n: value} }
func add(key string, by int) call    { return call{name: "add", lo: key, n: by} }
func remove(key string) call         { return call{name: "remove", lo: key} }
func scan(lo, hi string, n int) call { return call{name: "scan", lo: lo, hi: hi, n: n} }

func items(list ...api.Item) result { return result{items: list} }
func number(n int) result           { return result{n: n} }
func fails(e api.Errno) result      { return result{e: e} }

func item(key string, n int) api.Item { return api.Item{Key: key, Value: n} }

// keyOf returns a key for a number. Those of greater numbers are greater.
func keyOf(n int) string { return fmt.Sprintf("k%05d", n) }

// callOf makes a call of a transaction.
func callOf(x *ledger.Tx, c call) result {
	var r result
	switch c.name {
	case "get":
		r.n, r.e = x.Get(c.lo)
	case "scan":
		r.items, r.e = x.Scan(c.lo, c.hi, c.n)
	case "put":
		r.e = x.Put(c.lo, c.n)
	case "add":
		r.n, r.e = x.Add(c.lo, c.n)
	case "remove":
		r.e = x.Remove(c.lo)
	case "commit":
		r.n, r.e = x.Commit()
	case "abort":
		r.e = x.Abort()
	}
	return r
}

// checkCall makes a call, and checks what it returns.
func checkCall(t *testing.T, x *ledger.Tx, c call, want result) {
	t.Helper()
	if got := callOf(x, c); !same(got, want) {
		t.Errorf("%.80v: %v, not %v", c, got, want)
	}
}

// begin returns a transaction of the current version.
func begin(t *testing.T, l *ledger.Ledger) *ledger.Tx {
	t.Helper()
	version := l.Version()
	x, e := l.Begin()
	if e != api.OK || x.Base() != version {
		t.Fatalf("Begin: base %d, %d", x.Base(), e)
	}
	return x
}

// beginAt returns a transaction of a version that can be read.
func beginAt(t *testing.T, l *ledger.Ledger, version int) *ledger.Tx {
	t.Helper()
	x, e := l.BeginAt(version)
	if e != api.OK || x.Base() != version {
		t.Fatalf("BeginAt(%d): base %d, %d", version, x.Base(), e)
	}
	return x
}

// checkCommit commits a transaction.
func checkCommit(t *testing.T, x *ledger.Tx, version int, e api.Errno) {
	t.Helper()
	if got, err := x.Commit(); got != version || err != e {
		t.Errorf("Commit: %d, %d, not %d, %d", got, err, version, e)
	}
}

// commit makes a version by these calls, none of which may fail.
func commit(t *testing.T, l *ledger.Ledger, calls ...call) {
	t.Helper()
	x := begin(t, l)
	for _, c := range calls {
		if r := callOf(x, c); r.e != api.OK {
			t.Fatalf("%v: %d", c, r.e)
		}
	}
	version := l.Version() + 1
	if n, e := x.Commit(); n != version || e != api.OK || l.Version() != version {
		t.Fatalf("Commit: %d, %d, not %d", n, e, version)
	}
}

// fill adds so many keys, each with its number as its value.
func fill(t *testing.T, l *ledger.Ledger, from, to int) {
	t.Helper()
	for from < to {
		var calls []call
		for ; from < to && len(calls) < mostWrites; from++ {
			calls = append(calls, put(keyOf(from), from))
		}
		commit(t, l, calls...)
	}
}

// checkAt checks what a version has.
func checkAt(t *testing.T, l *ledger.Ledger, version int, want ...api.Item) {
	t.Helper()
	got, e := l.At(version)
	if e != api.OK || !slices.Equal(got, want) {
		t.Errorf("At(%d): %v, %d, not %v", version, got, e, want)
	}
}

// view is all that can be seen of a ledger.
func view(l *ledger.Ledger) string {
	var b strings.Builder
	fmt.Fprintln(&b, l.Oldest(), l.Version(), l.Open())
	for version := l.Oldest(); version <= l.Version(); version++ {
		list, e := l.At(version)
		fmt.Fprintln(&b, list, e)
	}
	return b.String()
}
