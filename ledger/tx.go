package ledger

import (
	"silverside/api"
)

// base is the version that a transaction was made with: its number, and its state.
type base struct {
	number int
	state  *node
}

// write is what a transaction does with a key.
type write struct {
	value     int
	isRemoved bool
}

// span is the range of all keys from lo on that are less than hi, or of all keys from lo on if hi is empty.
type span struct {
	lo, hi string
}

func (s span) contains(key string) bool {
	return s.lo <= key && (s.hi == "" || key < s.hi)
}

// Tx is a transaction. It embeds its base. It is open as long as its ledger says so.
type Tx struct {
	base
	ledger *Ledger
	writes map[string]write
	keys   map[string]bool // those that it has read
	spans  map[span]bool   // the ranges that it has read
}

func newTx(l *Ledger, number int) *Tx {
	return &Tx{
		base:   base{number: number, state: l.states[number]},
		ledger: l,
		writes: map[string]write{},
		keys:   map[string]bool{},
		spans:  map[span]bool{},
	}
}

// Base returns the number of the version that the transaction was made with.
func (t *Tx) Base() int {
	if !t.isUsable() {
		return 0
	}
	return t.number
}

// Get returns the value of a key.
func (t *Tx) Get(key string) (int, api.Errno) {
	if e := t.refuseKey(key); e != api.OK {
		return 0, e
	}
	t.keys[key] = true
	value, isThere := t.sees(key)
	if !isThere {
		return 0, api.ErrNone
	}
	return value, api.OK
}

// Scan returns at most so many keys of a range, with their values, in ascending order.
func (t *Tx) Scan(lo, hi string, most int) ([]api.Item, api.Errno) {
	if e := t.refuse(); e != api.OK {
		return nil, e
	}
	s := span{lo, hi}
	t.spans[s] = true
	var list []api.Item
	for item := range t.state.changedBy(t.writes).from(lo) {
		if len(list) >= most || !s.contains(item.Key) {
			break
		}
		list = append(list, item)
	}
	return list, api.OK
}

// Put gives a key a value.
func (t *Tx) Put(key string, value int) api.Errno {
	if e := t.refuseKey(key); e != api.OK {
		return e
	}
	if !isValue(value) {
		return api.ErrArg
	}
	return t.write(key, write{value: value})
}

// Add adds a number to the value of a key, which is 0 if there is none yet, and returns the sum.
func (t *Tx) Add(key string, by int) (int, api.Errno) {
	if e := t.refuseKey(key); e != api.OK {
		return 0, e
	}
	if !isValue(by) {
		return 0, api.ErrArg
	}
	value, _ := t.Get(key)
	sum := value + by
	if e := t.Put(key, sum); e != api.OK {
		return 0, e
	}
	return sum, api.OK
}

// Remove removes a key.
func (t *Tx) Remove(key string) api.Errno {
	if _, e := t.Get(key); e != api.OK {
		return e
	}
	return t.write(key, write{isRemoved: true})
}

// Commit ends the transaction, and makes a version of its writes, if it has any and is not stale.
func (t *Tx) Commit() (int, api.Errno) {
	if e := t.refuse(); e != api.OK {
		return 0, e
	}
	defer t.end()
	if len(t.writes) == 0 {
		return t.number, api.OK
	}
	if t.isStale() {
		return 0, api.ErrStale
	}
	current := t.ledger.states[t.ledger.current]
	return t.ledger.add(current.changedBy(t.writes))
}

// Abort ends the transaction, without an effect.
func (t *Tx) Abort() api.Errno {
	if e := t.refuse(); e != api.OK {
		return e
	}
	t.end()
	return api.OK
}

// end closes the transaction. Of what it holds, only the number of its base can be asked for from then on; the rest would keep forgotten states in memory.
func (t *Tx) end() {
	delete(t.ledger.open, t)
	*t = Tx{base: base{number: t.number}, ledger: t.ledger}
}

// sees returns the value of a key, and whether it is there, in the base as it is changed by the writes.
func (t *Tx) sees(key string) (int, bool) {
	if w, isWritten := t.writes[key]; isWritten {
		return w.value, !w.isRemoved
	}
	return t.state.value(key)
}

func (t *Tx) write(key string, w write) api.Errno {
	_, isWritten := t.writes[key]
	if !isWritten && len(t.writes) >= api.MaxWrites {
		return api.ErrFull
	}
	t.writes[key] = w
	return api.OK
}

// isStale reports whether a later version has changed what the transaction has read. Each version is compared with the one before it, as a change that was undone counts as well.
func (t *Tx) isStale() bool {
	l := t.ledger
	for later := t.number + 1; later <= l.current; later++ {
		for change := range differences(l.states[later-1], l.states[later]) {
			if t.hasRead(change.Key) {
				return true
			}
		}
	}
	return false
}

func (t *Tx) hasRead(key string) bool {
	if t.keys[key] {
		return true
	}
	for s := range t.spans {
		if s.contains(key) {
			return true
		}
	}
	return false
}

func (t *Tx) isUsable() bool {
	return t != nil && t.ledger != nil
}

// refuse returns the error of a call that needs the transaction to be open.
func (t *Tx) refuse() api.Errno {
	if !t.isUsable() {
		return api.ErrUnusable
	}
	if !t.ledger.open[t] {
		return api.ErrState
	}
	return api.OK
}

// refuseKey returns the error of a call that names this key.
func (t *Tx) refuseKey(key string) api.Errno {
	if e := t.refuse(); e != api.OK {
		return e
	}
	if len(key) < 1 || len(key) > api.MaxKey {
		return api.ErrArg
	}
	return api.OK
}

func isValue(value int) bool {
	return value >= -api.MaxInt && value <= api.MaxInt
}
