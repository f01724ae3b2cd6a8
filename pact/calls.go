package pact

import (
	"slices"

	"silverside/api"
)

// Begin makes a transaction of these parts that the site coordinates, and returns its number.
func (n *Net) Begin(site int, parts []api.Move) (int, api.Errno) {
	if e := n.refuseDown(site); e != api.OK {
		return 0, e
	}
	if !n.isTransaction(parts) {
		return 0, api.ErrArg
	}
	if n.begun >= api.MaxTx {
		return 0, api.ErrFull
	}
	n.begun++
	n.send(n.sites[site].begin(n.begun, parts))
	return n.begun, api.OK
}

// Cancel ends a transaction that is open at the site.
func (n *Net) Cancel(site, tx int) api.Errno {
	if e := n.refuseDown(site); e != api.OK {
		return e
	}
	s := n.sites[site]
	if _, isOpen := s.open[tx]; !isOpen {
		return api.ErrNone
	}
	n.send(s.cancel(tx))
	return api.OK
}

// Deliver takes the letter at this position to its receiver.
func (n *Net) Deliver(letter int) api.Errno {
	if e := n.refuseLetter(letter); e != api.OK {
		return e
	}
	m := n.letters[letter]
	n.remove(letter) // before it is handled: its place may serve for the reply
	n.handle(m)
	return api.OK
}

// Repeat takes a copy of the letter at this position to its receiver; the letter itself stays on its way.
func (n *Net) Repeat(letter int) api.Errno {
	if e := n.refuseLetter(letter); e != api.OK {
		return e
	}
	n.handle(n.letters[letter])
	return api.OK
}

// Lose removes the letter at this position.
func (n *Net) Lose(letter int) api.Errno {
	if e := n.refuseLetter(letter); e != api.OK {
		return e
	}
	n.remove(letter)
	return api.OK
}

// Tick lets the site send again what has not been answered.
func (n *Net) Tick(site int) api.Errno {
	if e := n.refuseDown(site); e != api.OK {
		return e
	}
	n.send(n.sites[site].remind())
	return api.OK
}

// Crash takes the site down.
func (n *Net) Crash(site int) api.Errno {
	if e := n.refuseDown(site); e != api.OK {
		return e
	}
	n.sites[site].crash()
	return api.OK
}

// Start brings the site up again.
func (n *Net) Start(site int) api.Errno {
	if e := n.refuseSite(site); e != api.OK {
		return e
	}
	if n.sites[site].isUp {
		return api.ErrState
	}
	n.sites[site].isUp = true
	return api.OK
}

// isTransaction reports whether these are the parts of a transaction of this net.
func (n *Net) isTransaction(parts []api.Move) bool {
	if len(parts) == 0 {
		return false
	}
	var isNamed [api.MaxSites]bool
	sum := 0
	for _, p := range parts {
		if n.refuseSite(p.Site) != api.OK || isNamed[p.Site] {
			return false
		}
		if p.Change == 0 || p.Change < -api.MaxStock || p.Change > api.MaxStock {
			return false
		}
		isNamed[p.Site] = true
		sum += p.Change
	}
	return sum == 0
}

// send adds the letters to those on their way, as far as there is room; the others are lost.
func (n *Net) send(letters []api.Mail) {
	room := api.MaxMail - len(n.letters)
	n.letters = append(n.letters, letters[:min(room, len(letters))]...)
}

func (n *Net) remove(letter int) {
	n.letters = slices.Delete(n.letters, letter, letter+1)
}

// handle lets the receiver of the letter handle it, unless it is down.
func (n *Net) handle(m api.Mail) {
	if s := n.sites[m.To]; s.isUp {
		n.send(s.handle(m))
	}
}
