package room

import (
	"strconv"
	"strings"
)

// Text returns the state of the room, in lines.
func (r *Room) Text() string {
	if !r.isUsable() {
		return ""
	}
	p := &page{}
	p.addShapes(&r.store)
	p.addStock(&r.store)
	p.addRules(&r.store)
	p.addLedger(&r.store)
	p.addLine(phrase("trace", len(r.trace)))
	return p.String()
}

// page is a text that is made line by line.
type page struct {
	strings.Builder
}

func (p *page) addLine(parts ...string) {
	p.WriteString(strings.Join(parts, " ") + "\n")
}

func (p *page) addShapes(s *store) {
	for _, points := range s.outlines {
		parts := []string{"outline"}
		for _, point := range points {
			parts = append(parts, strconv.Itoa(point.X)+":"+strconv.Itoa(point.Y))
		}
		p.addLine(parts...)
	}
	for _, job := range s.jobs {
		p.addLine(phrase("job", job.Ready, job.Due, job.Work))
	}
}

func (p *page) addStock(s *store) {
	for site := range s.net.Sites() {
		stock, _ := s.net.Stock(site)
		p.addLine(phrase("site", stock, digit(s.net.Up(site))))
	}
	for _, m := range s.net.Letters() {
		p.addLine(phrase("letter", m.From, m.To, m.Kind, m.Tx, m.N))
	}
}

func (p *page) addRules(s *store) {
	for _, name := range s.module.Names() {
		kind, _ := s.module.Type(name)
		p.addLine("def", name, kind)
	}
}

func (p *page) addLedger(s *store) {
	p.addLine(phrase("version", s.ledger.Version()))
	for _, item := range s.items() {
		p.addLine("item", item.Key, strconv.Itoa(item.Value))
	}
	p.addLine(phrase("open", s.ledger.Open()))
}
