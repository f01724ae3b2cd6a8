package room

import (
	"math"
	"strconv"
	"strings"

	"silverside/find"
)

func (r *Room) open(a *arguments) string {
	a.end()
	r.transactions = append(r.transactions, must(r.ledger.Begin()))
	return phrase("open", len(r.transactions))
}

func (r *Room) get(a *arguments) string {
	number, key := a.number(), a.token()
	a.end()
	t := must(r.transaction(number))
	return phrase("get", must(t.Get(key)))
}

func (r *Room) put(a *arguments) string {
	number, key, value := a.number(), a.token(), a.number()
	a.end()
	t := must(r.transaction(number))
	demand(t.Put(key, value))
	return done
}

func (r *Room) add(a *arguments) string {
	number, key, by := a.number(), a.token(), a.number()
	a.end()
	t := must(r.transaction(number))
	return phrase("add", must(t.Add(key, by)))
}

func (r *Room) remove(a *arguments) string {
	number, key := a.number(), a.token()
	a.end()
	t := must(r.transaction(number))
	demand(t.Remove(key))
	return done
}

func (r *Room) list(a *arguments) string {
	number, lo, hi := a.number(), a.token(), a.token()
	a.end()
	if hi == "-" {
		hi = "" // which no token can say
	}
	t := must(r.transaction(number))
	parts := []string{"list"}
	for _, item := range must(t.Scan(lo, hi, math.MaxInt)) {
		parts = append(parts, item.Key+":"+strconv.Itoa(item.Value))
	}
	return strings.Join(parts, " ")
}

func (r *Room) commit(a *arguments) string {
	number := a.number()
	a.end()
	t := must(r.transaction(number))
	return phrase("commit", must(t.Commit()))
}

func (r *Room) abort(a *arguments) string {
	number := a.number()
	a.end()
	t := must(r.transaction(number))
	demand(t.Abort())
	return done
}

func (r *Room) find(a *arguments) string {
	pattern := a.rest()
	index := must(find.New(r.trace))
	return phrase("find", index.Count(pattern))
}
