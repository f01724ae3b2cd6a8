package pact

import (
	"silverside/api"
)

// handle does what a letter to the site asks for, and returns the letters to send.
func (s *site) handle(m api.Mail) []api.Mail {
	handlers := [...]func(*site, api.Mail) []api.Mail{
		api.MailAsk:    (*site).ask,
		api.MailYes:    (*site).agree,
		api.MailNo:     (*site).disagree,
		api.MailCommit: (*site).commit,
		api.MailAbort:  (*site).abort,
		api.MailDone:   (*site).finish,
		api.MailWhat:   (*site).tell,
	}
	return handlers[m.Kind](s, m)
}

// ask promises the change if that is possible. An answer that was given once is given again.
func (s *site) ask(m api.Mail) []api.Mail {
	switch s.outcome(m.Tx) {
	case hasPromised:
		return s.reply(m, api.MailYes)
	case hasKept:
		return nil
	case hasDropped:
		return s.reply(m, api.MailNo)
	}
	if !s.isPossible(m.N) {
		s.dropped[m.Tx] = true
		return s.reply(m, api.MailNo)
	}
	s.promised[m.Tx] = promise{coordinator: m.From, change: m.N}
	return s.reply(m, api.MailYes)
}

// agree notes that a site has promised the transaction, and grants it once all have.
func (s *site) agree(m api.Mail) []api.Mail {
	if d, isOpen := s.open[m.Tx]; isOpen {
		delete(d.missing, m.From)
		if len(d.missing) > 0 {
			return nil
		}
		delete(s.open, m.Tx)
		s.granted[m.Tx] = newDeal(d.parts)
		return s.write(api.MailCommit, m.Tx, d.parts)
	}
	d, isGranted := s.granted[m.Tx]
	switch {
	case !isGranted:
		return s.reply(m, api.MailAbort)
	case d.missing[m.From]:
		return s.reply(m, api.MailCommit)
	}
	return nil
}

// disagree ends an open transaction that a site has dropped.
func (s *site) disagree(m api.Mail) []api.Mail {
	d, isOpen := s.open[m.Tx]
	if !isOpen {
		return nil
	}
	delete(s.open, m.Tx)
	return s.write(api.MailAbort, m.Tx, d.otherParts(m.From))
}

// commit keeps what was promised.
func (s *site) commit(m api.Mail) []api.Mail {
	if p, isPromised := s.promised[m.Tx]; isPromised {
		s.stock += p.change
		delete(s.promised, m.Tx)
		s.kept[m.Tx] = true
	}
	if !s.kept[m.Tx] {
		return nil
	}
	return s.reply(m, api.MailDone)
}

// abort drops what was promised.
func (s *site) abort(m api.Mail) []api.Mail {
	if _, isPromised := s.promised[m.Tx]; isPromised {
		delete(s.promised, m.Tx)
		s.dropped[m.Tx] = true
	}
	return nil
}

// finish notes that a site has kept the transaction, which is forgotten once all have.
func (s *site) finish(m api.Mail) []api.Mail {
	if d, isGranted := s.granted[m.Tx]; isGranted {
		delete(d.missing, m.From)
		if len(d.missing) == 0 {
			delete(s.granted, m.Tx)
		}
	}
	return nil
}

// tell answers a site that has promised a transaction and does not know what became of it.
func (s *site) tell(m api.Mail) []api.Mail {
	if _, isGranted := s.granted[m.Tx]; isGranted {
		return s.reply(m, api.MailCommit)
	}
	if _, isOpen := s.open[m.Tx]; isOpen {
		return nil
	}
	return s.reply(m, api.MailAbort)
}

func (s *site) reply(m api.Mail, kind int) []api.Mail {
	return []api.Mail{{From: s.number, To: m.From, Kind: kind, Tx: m.Tx}}
}

// isPossible reports whether the stock can bear the change. It counts promises of the same sign only, as none of the others need be kept.
func (s *site) isPossible(change int) bool {
	stock := s.stock + change
	for _, p := range s.promised {
		if (p.change < 0) == (change < 0) {
			stock += p.change
		}
	}
	return stock >= 0 && stock <= api.MaxStock
}
