package pact

import (
	"maps"
	"slices"

	"silverside/api"
)

// What a site knows of a transaction, as Outcome tells it.
const (
	knowsNothing = iota
	hasPromised
	hasKept
	hasDropped
)

// promise is what a site must do if the coordinator of a transaction says so.
type promise struct {
	coordinator, change int
}

// deal is a transaction as its coordinator sees it. While it is open, the sites that have not agreed are missing; while it is granted, those that have not answered.
type deal struct {
	parts   []api.Move
	missing map[int]bool
}

func newDeal(parts []api.Move) deal {
	d := deal{parts: slices.Clone(parts), missing: map[int]bool{}}
	for _, p := range parts {
		d.missing[p.Site] = true
	}
	return d
}

func (d deal) clone() deal {
	return deal{parts: slices.Clone(d.parts), missing: maps.Clone(d.missing)}
}

// missingParts returns the parts whose sites are missing, in order.
func (d deal) missingParts() []api.Move {
	var parts []api.Move
	for _, p := range d.parts {
		if d.missing[p.Site] {
			parts = append(parts, p)
		}
	}
	return parts
}

// otherParts returns all parts but that of the site, in order.
func (d deal) otherParts(site int) []api.Move {
	var parts []api.Move
	for _, p := range d.parts {
		if p.Site != site {
			parts = append(parts, p)
		}
	}
	return parts
}

// site is one room. What it remembers is in maps with the numbers of transactions as keys.
type site struct {
	number, stock int
	isUp          bool
	promised      map[int]promise
	kept, dropped map[int]bool
	open, granted map[int]deal
}

func newSite(number, stock int) *site {
	return &site{
		number:   number,
		stock:    stock,
		isUp:     true,
		promised: map[int]promise{},
		kept:     map[int]bool{},
		dropped:  map[int]bool{},
		open:     map[int]deal{},
		granted:  map[int]deal{},
	}
}

func (s *site) clone() *site {
	return &site{
		number:   s.number,
		stock:    s.stock,
		isUp:     s.isUp,
		promised: maps.Clone(s.promised),
		kept:     maps.Clone(s.kept),
		dropped:  maps.Clone(s.dropped),
		open:     cloneDeals(s.open),
		granted:  cloneDeals(s.granted),
	}
}

func cloneDeals(deals map[int]deal) map[int]deal {
	twins := map[int]deal{}
	for tx, d := range deals {
		twins[tx] = d.clone()
	}
	return twins
}

// outcome returns what the site knows of the transaction.
func (s *site) outcome(tx int) int {
	_, isPromised := s.promised[tx]
	switch {
	case isPromised:
		return hasPromised
	case s.kept[tx]:
		return hasKept
	case s.dropped[tx]:
		return hasDropped
	}
	return knowsNothing
}

// isSettled reports whether the site waits for nothing.
func (s *site) isSettled() bool {
	return len(s.open) == 0 && len(s.granted) == 0 && len(s.promised) == 0
}

// begin makes the transaction open, and returns the letters to send.
func (s *site) begin(tx int, parts []api.Move) []api.Mail {
	s.open[tx] = newDeal(parts)
	return s.write(api.MailAsk, tx, parts)
}

// cancel ends an open transaction, and returns the letters to send.
func (s *site) cancel(tx int) []api.Mail {
	parts := s.open[tx].parts
	delete(s.open, tx)
	return s.write(api.MailAbort, tx, parts)
}

// crash takes the site down. A coordinator that does not know a transaction takes it as ended, so open ones may be forgotten; a granted one may not, as some site may have kept it.
func (s *site) crash() {
	s.isUp = false
	clear(s.open)
}

// remind returns the letters that a tick sends.
func (s *site) remind() []api.Mail {
	var letters []api.Mail
	for _, tx := range ascending(s.open) {
		letters = append(letters, s.write(api.MailAsk, tx, s.open[tx].missingParts())...)
	}
	for _, tx := range ascending(s.granted) {
		letters = append(letters, s.write(api.MailCommit, tx, s.granted[tx].missingParts())...)
	}
	for _, tx := range ascending(s.promised) {
		letters = append(letters, api.Mail{From: s.number, To: s.promised[tx].coordinator, Kind: api.MailWhat, Tx: tx})
	}
	return letters
}

// ascending returns the numbers of the transactions in a map, sorted.
func ascending[V any](transactions map[int]V) []int {
	return slices.Sorted(maps.Keys(transactions))
}

// write returns letters of one kind to the sites of these parts.
func (s *site) write(kind, tx int, parts []api.Move) []api.Mail {
	var letters []api.Mail
	for _, p := range parts {
		m := api.Mail{From: s.number, To: p.Site, Kind: kind, Tx: tx}
		if kind == api.MailAsk {
			m.N = p.Change
		}
		letters = append(letters, m)
	}
	return letters
}
