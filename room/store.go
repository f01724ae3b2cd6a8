package room

import (
	"strings"

	"silverside/api"
	"silverside/ledger"
	"silverside/pact"
	"silverside/rules"
)

// store is what a room keeps from act to act.
type store struct {
	outlines     [][]api.Point
	jobs         []api.Job
	net          *pact.Net
	definitions  string // the text that the module was loaded from
	module       rules.Module
	ledger       *ledger.Ledger
	transactions []*ledger.Tx // also those that have ended
	trace        string
}

// outline returns the outline with this number, counted from 0.
func (s *store) outline(k int) ([]api.Point, api.Errno) {
	if k < 0 || k >= len(s.outlines) {
		return nil, api.ErrNone
	}
	return s.outlines[k], api.OK
}

// transaction returns the transaction with this number, counted from 1.
func (s *store) transaction(number int) (*ledger.Tx, api.Errno) {
	if number < 1 || number > len(s.transactions) {
		return nil, api.ErrNone
	}
	return s.transactions[number-1], api.OK
}

// items returns the keys of the current version, with their values.
func (s *store) items() []api.Item {
	list, _ := s.ledger.At(s.ledger.Version()) // the current version can always be read
	return list
}

// book adds the worth of a plan to the ledger, and counts the piece.
func (s *store) book(worth int) {
	t := must(s.ledger.Begin())
	defer t.Abort() // which does nothing once the transaction is committed
	must(t.Add("worth", worth))
	must(t.Add("pieces", 1))
	must(t.Commit())
}

// define gives the module a further definition.
func (s *store) define(name, body string) {
	must(s.module.Infer(body)) // so that the body is an expression, and not the end of this definition and the beginning of another one
	definitions := s.definitions + "(def " + name + " " + body + ")"
	module, _, e := rules.Load(definitions)
	demand(e)
	s.definitions, s.module = definitions, module
}

// record adds the line of an act to the trace, and gives up what is not needed any more: the first lines of a trace that is too long, and the versions that no transaction is based on, as a room shows the current one only.
func (s *store) record(line string) {
	s.trace += line + "\n"
	for len(s.trace) > api.MaxTrace {
		_, s.trace, _ = strings.Cut(s.trace, "\n")
	}
	s.ledger.Forget(s.ledger.Version())
}
