package pact_test

import (
	"fmt"
	"slices"

	"silverside/api"
	"silverside/pact"
)

// model is the chapter's text told once more, with one table of transactions for the whole net.
type model struct {
	stock []int
	isUp  []bool
	mail  []api.Mail
	deals []deal
}

const (
	over = iota
	open
	granted
)

// deal is a transaction: its coordinator, what it is there, which sites have agreed or answered, and what each site knows.
type deal struct {
	home, phase int
	parts       []api.Move
	heard       [8]bool
	known       [8]int
}

func modelOf(stocks []int) *model {
	m := &model{stock: slices.Clone(stocks)}
	for range stocks {
		m.isUp = append(m.isUp, true)
	}
	return m
}

func (m *model) copy() *model {
	// The parts of a deal never change, so two models may share them.
	return &model{slices.Clone(m.stock), slices.Clone(m.isUp), slices.Clone(m.mail), slices.Clone(m.deals)}
}

// key tells states apart.
func (m *model) key() string {
	return fmt.Sprint(m.stock, m.isUp, m.mail, m.deals)
}

// take makes the call, as the function of this name does on a net.
func (m *model) take(s step) (int, api.Errno) {
	k := s.numbers[0]
	switch s.word {
	case "deliver", "repeat", "lose":
		if k < 0 || k >= len(m.mail) {
			return 0, api.ErrRange
		}
		letter := m.mail[k]
		if s.word != "repeat" {
			m.mail = append(append([]api.Mail{}, m.mail[:k]...), m.mail[k+1:]...)
		}
		if s.word != "lose" && m.isUp[letter.To] {
			m.handle(letter)
		}
		return 0, api.OK
	}
	if k < 0 || k >= len(m.stock) {
		return 0, api.ErrRange
	}
	if m.isUp[k] == (s.word == "start") {
		return 0, api.ErrState
	}
	return m.act(k, s)
}

// act does what is left to do once the site is known to be there and to be up, or down for start.
func (m *model) act(k int, s step) (int, api.Errno) {
	switch s.word {
	case "begin":
		return m.begin(k, s.parts)
	case "cancel":
		return 0, m.cancel(k, s.numbers[1])
	case "tick":
		m.tick(k)
	case "crash":
		m.isUp[k] = false
		for i := range m.deals {
			if m.deals[i].home == k && m.deals[i].phase == open {
				m.deals[i].phase = over
			}
		}
	case "start":
		m.isUp[k] = true
	}
	return 0, api.OK
}

func (m *model) begin(site int, parts []api.Move) (int, api.Errno) {
	sum, names := 0, map[int]bool{}
	for _, p := range parts {
		if p.Site < 0 || p.Site >= len(m.stock) || names[p.Site] || p.Change == 0 || max(p.Change, -p.Change) > 1<<40 || p.Change < -1<<40 {
			return 0, api.ErrArg
		}
		names[p.Site] = true
		sum += p.Change
	}
	if len(parts) == 0 || sum != 0 {
		return 0, api.ErrArg
	}
	if len(m.deals) == 256 {
		return 0, api.ErrFull
	}
	m.deals = append(m.deals, deal{home: site, phase: open, parts: slices.Clone(parts)})
	for _, p := range parts {
		m.send(site, p.Site, api.MailAsk, len(m.deals), p.Change)
	}
	return len(m.deals), api.OK
}

func (m *model) cancel(site, tx int) api.Errno {
	if tx < 1 || tx > len(m.deals) || m.deals[tx-1].home != site || m.deals[tx-1].phase != open {
		return api.ErrNone
	}
	m.deals[tx-1].phase = over
	for _, p := range m.deals[tx-1].parts {
		m.send(site, p.Site, api.MailAbort, tx, 0)
	}
	return api.OK
}

func (m *model) tick(site int) {
	for _, phase := range []int{open, granted} {
		for i, d := range m.deals {
			for _, p := range d.parts {
				if d.home != site || d.phase != phase || d.heard[p.Site] {
					continue
				}
				if phase == open {
					m.send(site, p.Site, api.MailAsk, i+1, p.Change)
				} else {
					m.send(site, p.Site, api.MailCommit, i+1, 0)
				}
			}
		}
	}
	for i, d := range m.deals {
		if d.known[site] == 1 {
			m.send(site, d.home, api.MailWhat, i+1, 0)
		}
	}
}

func (m *model) send(from, to, kind, tx, n int) {
	if len(m.mail) < 1024 {
		m.mail = append(m.mail, api.Mail{From: from, To: to, Kind: kind, Tx: tx, N: n})
	}
}

func (m *model) handle(letter api.Mail) {
	if k := letter.Kind; k == api.MailAsk || k == api.MailCommit || k == api.MailAbort {
		m.handlePart(letter.To, letter.From, letter)
	} else {
		m.handleHome(letter.To, letter.From, letter)
	}
}

// handlePart handles letters to the site of a part.
func (m *model) handlePart(s, f int, letter api.Mail) {
	t := letter.Tx
	d := &m.deals[t-1]
	switch {
	case letter.Kind == api.MailAsk && d.known[s] == 1:
		m.send(s, f, api.MailYes, t, 0)
	case letter.Kind == api.MailAsk && d.known[s] == 3:
		m.send(s, f, api.MailNo, t, 0)
	case letter.Kind == api.MailAsk && d.known[s] == 0:
		if m.isPossible(s, letter.N) {
			d.known[s] = 1
			m.send(s, f, api.MailYes, t, 0)
		} else {
			d.known[s] = 3
			m.send(s, f, api.MailNo, t, 0)
		}
	case letter.Kind == api.MailCommit && d.known[s] == 1:
		d.known[s] = 2
		m.stock[s] += changeOf(*d, s)
		m.send(s, f, api.MailDone, t, 0)
	case letter.Kind == api.MailCommit && d.known[s] == 2:
		m.send(s, f, api.MailDone, t, 0)
	case letter.Kind == api.MailAbort && d.known[s] == 1:
		d.known[s] = 3
	}
}

// handleHome handles letters to the coordinator.
func (m *model) handleHome(s, f int, letter api.Mail) {
	t := letter.Tx
	d := &m.deals[t-1]
	switch {
	case letter.Kind == api.MailYes && d.phase == open:
		d.heard[f] = true
		if d.allHeard() {
			d.phase, d.heard = granted, [8]bool{}
			m.sendAll(*d, t, api.MailCommit, -1)
		}
	case letter.Kind == api.MailYes && d.phase == granted:
		if !d.heard[f] {
			m.send(s, f, api.MailCommit, t, 0)
		}
	case letter.Kind == api.MailNo && d.phase == open:
		d.phase = over
		m.sendAll(*d, t, api.MailAbort, f)
	case letter.Kind == api.MailDone && d.phase == granted:
		d.heard[f] = true
		if d.allHeard() {
			d.phase = over
		}
	case letter.Kind == api.MailWhat && d.phase == granted:
		m.send(s, f, api.MailCommit, t, 0)
	case (letter.Kind == api.MailYes || letter.Kind == api.MailWhat) && d.phase == over:
		m.send(s, f, api.MailAbort, t, 0)
	}
}

func (m *model) sendAll(d deal, tx, kind, but int) {
	for _, p := range d.parts {
		if p.Site != but {
			m.send(d.home, p.Site, kind, tx, 0)
		}
	}
}

func (d *deal) allHeard() bool {
	for _, p := range d.parts {
		if !d.heard[p.Site] {
			return false
		}
	}
	return true
}

func (m *model) isPossible(site, change int) bool {
	worst := m.stock[site] + change
	for _, d := range m.deals {
		if c := changeOf(d, site); d.known[site] == 1 && c*sign(change) > 0 {
			worst += c
		}
	}
	return change < 0 && worst >= 0 || change > 0 && worst <= 1<<40
}

func changeOf(d deal, site int) int {
	for _, p := range d.parts {
		if p.Site == site {
			return p.Change
		}
	}
	return 0
}

func sign(change int) int {
	if change < 0 {
		return -1
	}
	return 1
}

func (m *model) isSettled() bool {
	isSettled := len(m.mail) == 0
	for _, d := range m.deals {
		isSettled = isSettled && d.phase == over && !slices.Contains(d.known[:], 1)
	}
	return isSettled
}

// differs tells the first thing that can be seen of a net and is not as it is here, if any.
func (m *model) differs(n *pact.Net) string {
	if n.Sites() != len(m.stock) || n.Settled() != m.isSettled() {
		return fmt.Sprint("sites ", n.Sites(), ", settled ", n.Settled())
	}
	if letters := n.Letters(); !slices.Equal(letters, m.mail) {
		return fmt.Sprint("letters ", show(letters), ", not ", show(m.mail))
	}
	for site := range m.stock {
		if stock, e := n.Stock(site); stock != m.stock[site] || e != api.OK || n.Up(site) != m.isUp[site] {
			return fmt.Sprint("site ", site, ": stock ", stock, ", up ", n.Up(site))
		}
		for i, d := range m.deals {
			if got := n.Outcome(site, i+1); got != d.known[site] {
				return fmt.Sprint("site ", site, ": outcome of ", i+1, " is ", got)
			}
		}
	}
	return ""
}
