package ledger_test

import (
	"math"
	"math/rand"
	"slices"
	"strings"
	"testing"

	"silverside/api"
	"silverside/ledger"
)

// walk is a sequence of random calls of a ledger and its transactions, which a model follows.
type walk struct {
	*testing.T
	*rand.Rand
	keys, values int
	l            *ledger.Ledger
	m            *model
	txs          []*ledger.Tx
}

func newWalk(t *testing.T, seed int64, keys, values int) *walk {
	return &walk{T: t, Rand: rand.New(rand.NewSource(seed)), keys: keys, values: values, l: ledger.New(), m: newModel()}
}

// key returns one of the walk's keys, or seldom one that is not valid.
func (w *walk) key() string {
	switch n := w.Intn(w.keys + 2); {
	case n < w.keys:
		return w.name(n)
	case w.Intn(3) > 0:
		return w.name(w.Intn(w.keys))
	case n == w.keys:
		return ""
	}
	return strings.Repeat("b", longestKey+1)
}

func (w *walk) name(n int) string {
	names := []string{"b", "a", "ab", "b\x00", strings.Repeat("b", longestKey), "\xff", "\x00", "aa"}
	if w.keys > len(names) {
		return keyOf(n)
	}
	return names[n]
}

// bound returns a bound of a range.
func (w *walk) bound() string {
	if w.Intn(4) == 0 {
		return ""
	}
	return w.key() + []string{"", "", "\x00"}[w.Intn(3)]
}

func (w *walk) value() int {
	if w.Intn(12) > 0 {
		return w.Intn(2*w.values+1) - w.values
	}
	return []int{greatest, -greatest, greatest + 1, -greatest - 1, math.MaxInt, math.MinInt}[w.Intn(6)]
}

func (w *walk) call() call {
	switch w.Intn(9) {
	case 0, 1:
		return get(w.key())
	case 2, 3:
		return put(w.key(), w.value())
	case 4, 5:
		return add(w.key(), w.value())
	case 6, 7:
		return remove(w.key())
	}
	return scan(w.bound(), w.bound(), []int{-1, 0, 1, 2, 99, math.MaxInt, math.MinInt}[w.Intn(7)])
}

// version returns the number of a version, or seldom another one.
func (w *walk) version() int {
	return w.m.oldest - 1 + w.Intn(w.m.current()-w.m.oldest+3)
}

// begin makes a transaction, of the current version or of any one.
func (w *walk) begin() {
	version := w.version()
	var x *ledger.Tx
	var e api.Errno
	if w.Intn(2) == 0 {
		version = w.m.current()
		x, e = w.l.Begin()
	} else {
		x, e = w.l.BeginAt(version)
	}
	if want := w.m.begin(version); e != want || (x != nil) != (e == api.OK) || x.Base() != max(version, 0) && e == api.OK {
		w.Fatalf("begin at %d: base %d, %d, not %d", version, x.Base(), e, want)
	}
	if e == api.OK {
		w.txs = append(w.txs, x)
	}
}

// take makes a call of one of the last transactions.
func (w *walk) take(c call) {
	if len(w.txs) == 0 {
		return
	}
	w.takeOf(len(w.txs)-1-w.Intn(min(len(w.txs), 8)), c)
}

func (w *walk) takeOf(k int, c call) {
	got, want := callOf(w.txs[k], c), w.m.take(w.m.deals[k], c)
	if !same(got, want) {
		w.Fatalf("transaction %d: %.80v: %v, not %v", k, c, got, want)
	}
	if w.txs[k].Base() != w.m.deals[k].base {
		w.Fatalf("Base: %d, not %d", w.txs[k].Base(), w.m.deals[k].base)
	}
}

func (w *walk) history() {
	from, to := w.version(), w.version()
	list, e := w.l.Changes(from, to)
	want, err := w.m.changes(from, to)
	if e != err || !slices.Equal(list, want) {
		w.Fatalf("Changes(%d, %d): %v, %d, not %v, %d", from, to, list, e, want, err)
	}
	if w.Intn(4) > 0 {
		return
	}
	version := w.version()
	n, e := w.l.Forget(version)
	if oldest, err := w.m.forget(version); n != oldest || e != err {
		w.Fatalf("Forget(%d): %d, %d, not %d, %d", version, n, e, oldest, err)
	}
}

// step makes a random call.
func (w *walk) step() {
	switch n := w.Intn(20); {
	case n < 3:
		w.begin()
	case n < 5:
		w.take(call{name: "commit"})
	case n == 5 && w.Intn(2) == 0:
		w.take(call{name: "abort"})
	case n == 6:
		w.history()
	default:
		w.take(w.call())
	}
}

// replay performs the committed transactions with writes again, in the order of their versions, each alone and on the version before its own, and then the others, each on its base (P8.6).
func (w *walk) replay() {
	l := ledger.New()
	again := func(d *deal, x *ledger.Tx) {
		for i, c := range d.done {
			if got := callOf(x, c); !same(got, d.told[i]) {
				w.Fatalf("replayed: %.80v: %v, not %v", c, got, d.told[i])
			}
		}
	}
	for version := 1; version <= w.m.current(); version++ {
		for _, d := range w.m.deals {
			if d.hasCommitted() && len(d.writes) > 0 && d.told[len(d.told)-1].n == version {
				again(d, begin(w.T, l))
			}
		}
	}
	if l.Version() != w.l.Version() {
		w.Fatalf("replayed: %d versions, not %d", l.Version(), w.l.Version())
	}
	for _, d := range w.m.deals {
		if d.hasCommitted() && len(d.writes) == 0 {
			again(d, beginAt(w.T, l, d.base))
		}
	}
	l.Forget(w.l.Oldest())
	for version := l.Oldest(); version <= l.Version(); version++ {
		want, _ := w.l.At(version)
		checkAt(w.T, l, version, want...)
	}
}

// checkRivals looks for two committed transactions with the same base that have both read a key, and given it another value (P8.6).
func (w *walk) checkRivals() {
	type right struct {
		base int
		key  string
	}
	taken := map[right]bool{}
	for _, d := range w.m.deals {
		if !d.hasCommitted() {
			continue
		}
		for key, value := range d.writes {
			old, isThere := w.m.versions[d.base][key]
			if !d.hasRead(key) || isThere == (value != nil) && (value == nil || *value == old) {
				continue
			}
			if taken[right{d.base, key}] {
				w.Fatalf("two transactions with the base %d have both read and changed %q", d.base, key)
			}
			taken[right{d.base, key}] = true
		}
	}
}

// P8.1 to P8.7: random calls, with few keys and few values, so that transactions meet often.
func TestWalks(t *testing.T) {
	ends := map[string]int{}
	for seed := range int64(400) {
		w := newWalk(t, seed, 1+int(seed%8), 1+int(seed/8%3))
		for n := range 400 {
			w.step()
			if n%50 == 0 {
				w.m.compareWith(t, w.l)
			}
		}
		w.m.compareWith(t, w.l)
		w.replay()
		w.checkRivals()
		for _, d := range w.m.deals {
			ends[d.end()]++
		}
	}
	if min(ends["read"], ends["written"], ends["stale"], ends["aborted"]) < 1000 {
		t.Errorf("the walks are too uniform: %v", ends)
	}
}

// P8.3 to P8.7: random calls with so many keys that trees become deep, and transactions full.
func TestWalksWithManyKeys(t *testing.T) {
	for seed := range int64(6) {
		w := newWalk(t, seed, 600, 9)
		for range 120 {
			for w.m.openDeals() < 3 {
				w.begin()
			}
			for range w.Intn(500) {
				if c := w.call(); c.name != "scan" || w.Intn(30) == 0 {
					w.take(c)
				}
			}
			w.history()
			w.takeOf(w.Intn(len(w.txs)), call{name: "commit"})
		}
		w.m.compareWith(t, w.l)
		w.replay()
		w.checkRivals()
	}
}

// P8.6: of two transactions that read a key in any way, and change it in any way, one is committed.
func TestRivals(t *testing.T) {
	reads := []call{get("k"), scan("", "", 9), scan("k", "l", 0), add("k", 0), add("k", greatest)}
	writes := []call{put("k", 7), add("k", 1), remove("k")}
	for _, readA := range reads {
		for _, readB := range reads {
			for _, writeA := range writes {
				for _, writeB := range writes {
					l := ledger.New()
					commit(t, l, put("k", 5))
					a, b := begin(t, l), begin(t, l)
					callOf(a, readA)
					callOf(b, readB)
					callOf(b, writeB)
					callOf(a, writeA)
					checkCommit(t, a, 2, api.OK)
					checkCommit(t, b, 0, api.ErrStale)
				}
			}
		}
	}
}
