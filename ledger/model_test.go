package ledger_test

import (
	"maps"
	"slices"
	"testing"

	"silverside/api"
	"silverside/ledger"
)

// state is a state of the chapter's text: a plain map, copied for each version.
type state map[string]int

// deal is a transaction as the chapter's text tells it, and its calls so far with their results.
type deal struct {
	base   int
	isOpen bool
	writes map[string]*int // nil: removed
	keys   []string
	ranges [][2]string
	done   []call
	told   []result
}

// model is the chapter's text told once more, by whole states that are compared key by key.
type model struct {
	oldest   int
	versions []state
	deals    []*deal
}

func newModel() *model {
	return &model{versions: []state{{}}}
}

func (m *model) current() int {
	return len(m.versions) - 1
}

func (m *model) isRange(version int) bool {
	return version < m.oldest || version > m.current()
}

func (m *model) openDeals() int {
	n := 0
	for _, d := range m.deals {
		if d.isOpen {
			n++
		}
	}
	return n
}

func (m *model) begin(version int) api.Errno {
	if m.isRange(version) {
		return api.ErrRange
	}
	if m.openDeals() >= mostOpen {
		return api.ErrFull
	}
	m.deals = append(m.deals, &deal{base: version, isOpen: true, writes: map[string]*int{}})
	return api.OK
}

func (m *model) at(version int) ([]api.Item, api.Errno) {
	if m.isRange(version) {
		return nil, api.ErrRange
	}
	return inOrder(m.versions[version]), api.OK
}

func (m *model) changes(from, to int) ([]api.Change, api.Errno) {
	if m.isRange(from) || m.isRange(to) {
		return nil, api.ErrRange
	}
	var list []api.Change
	for _, key := range differing(m.versions[from], m.versions[to]) {
		a, was := m.versions[from][key]
		b, is := m.versions[to][key]
		list = append(list, api.Change{Key: key, Was: was, Is: is, From: a, To: b})
	}
	return list, api.OK
}

func (m *model) forget(version int) (int, api.Errno) {
	if version < 0 || version > m.current() {
		return 0, api.ErrRange
	}
	for _, d := range m.deals {
		if d.isOpen && d.base < version {
			version = d.base
		}
	}
	if version > m.oldest {
		m.oldest = version
	}
	return m.oldest, api.OK
}

// inOrder returns the keys of a state with their values.
func inOrder(s state) []api.Item {
	var list []api.Item
	for _, key := range slices.Sorted(maps.Keys(s)) {
		list = append(list, item(key, s[key]))
	}
	return list
}

// differing returns the keys in which two states differ.
func differing(a, b state) []string {
	all := maps.Clone(a)
	maps.Copy(all, b)
	var list []string
	for _, key := range slices.Sorted(maps.Keys(all)) {
		x, inA := a[key]
		y, inB := b[key]
		if inA != inB || x != y {
			list = append(list, key)
		}
	}
	return list
}

// changed returns a state that is changed by writes.
func changed(s state, writes map[string]*int) state {
	s = maps.Clone(s)
	for key, value := range writes {
		if value == nil {
			delete(s, key)
		} else {
			s[key] = *value
		}
	}
	return s
}

// take makes the call of a transaction, and notes it.
func (m *model) take(d *deal, c call) result {
	if !d.isOpen {
		return fails(api.ErrState)
	}
	r := m.effect(d, c)
	d.done = append(d.done, c)
	d.told = append(d.told, r)
	return r
}

func (m *model) effect(d *deal, c call) result {
	switch c.name {
	case "commit":
		d.isOpen = false
		return m.commit(d)
	case "abort":
		d.isOpen = false
		return result{}
	case "scan":
		d.ranges = append(d.ranges, [2]string{c.lo, c.hi})
		var list []api.Item
		for _, i := range inOrder(changed(m.versions[d.base], d.writes)) {
			if inRange(i.Key, c.lo, c.hi) && len(list) < c.n {
				list = append(list, i)
			}
		}
		return items(list...)
	}
	if len(c.lo) == 0 || len(c.lo) > longestKey {
		return fails(api.ErrArg)
	}
	if (c.name == "put" || c.name == "add") && (c.n < -greatest || c.n > greatest) {
		return fails(api.ErrArg)
	}
	value, isThere := changed(m.versions[d.base], d.writes)[c.lo]
	if c.name != "put" {
		d.keys = append(d.keys, c.lo)
	}
	switch c.name {
	case "get":
		if !isThere {
			return fails(api.ErrNone)
		}
		return number(value)
	case "remove":
		if !isThere {
			return fails(api.ErrNone)
		}
		return result{e: d.write(c.lo, nil)}
	case "put":
		return result{e: d.write(c.lo, &c.n)}
	}
	sum := value + c.n
	if sum < -greatest || sum > greatest {
		return fails(api.ErrArg)
	}
	if e := d.write(c.lo, &sum); e != api.OK {
		return fails(e)
	}
	return number(sum)
}

func inRange(key, lo, hi string) bool {
	return key >= lo && (hi == "" || key < hi)
}

func (d *deal) write(key string, value *int) api.Errno {
	if _, isWritten := d.writes[key]; !isWritten && len(d.writes) == mostWrites {
		return api.ErrFull
	}
	d.writes[key] = value
	return api.OK
}

func (m *model) commit(d *deal) result {
	if len(d.writes) == 0 {
		return number(d.base)
	}
	for version := d.base + 1; version <= m.current(); version++ {
		for _, key := range differing(m.versions[version-1], m.versions[version]) {
			if d.hasRead(key) {
				return fails(api.ErrStale)
			}
		}
	}
	next := changed(m.versions[m.current()], d.writes)
	if len(next) > mostItems {
		return fails(api.ErrFull)
	}
	m.versions = append(m.versions, next)
	return number(m.current())
}

func (d *deal) hasRead(key string) bool {
	for _, r := range d.ranges {
		if inRange(key, r[0], r[1]) {
			return true
		}
	}
	return slices.Contains(d.keys, key)
}

// hasCommitted reports whether a transaction has been committed, with or without writes.
func (d *deal) hasCommitted() bool {
	last := len(d.done) - 1
	return last >= 0 && d.done[last].name == "commit" && d.told[last].e == api.OK
}

// end tells how a transaction has ended.
func (d *deal) end() string {
	last := len(d.done) - 1
	switch {
	case d.isOpen:
		return "open"
	case d.done[last].name == "abort":
		return "aborted"
	case d.told[last].e == api.ErrStale:
		return "stale"
	case len(d.writes) == 0:
		return "read"
	}
	return "written"
}

// compareWith checks everything that can be seen of a ledger.
func (m *model) compareWith(t *testing.T, l *ledger.Ledger) {
	t.Helper()
	if l.Oldest() != m.oldest || l.Version() != m.current() || l.Open() != m.openDeals() {
		t.Fatalf("numbers: %d, %d, %d, not %d, %d, %d", l.Oldest(), l.Version(), l.Open(), m.oldest, m.current(), m.openDeals())
	}
	for version := -1; version <= m.current()+1; version++ {
		got, e := l.At(version)
		want, err := m.at(version)
		if e != err || !slices.Equal(got, want) {
			t.Fatalf("At(%d): %v, %d, not %v, %d", version, got, e, want, err)
		}
	}
}
