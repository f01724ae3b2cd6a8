package room

import (
	"silverside/api"
)

func (r *Room) begin(a *arguments) string {
	site := a.number()
	parts := []api.Move{a.move()}
	for a.hasMore() {
		parts = append(parts, a.move())
	}
	return phrase("begin", must(r.net.Begin(site, parts)))
}

func (r *Room) cancel(a *arguments) string {
	site, tx := a.number(), a.number()
	a.end()
	demand(r.net.Cancel(site, tx))
	return done
}
