package room

import (
	"strconv"

	"silverside/api"
	"silverside/carve"
)

func (r *Room) addDefinition(a *arguments) string {
	name, body := a.token(), a.rest()
	r.define(name, body)
	return "def " + must(r.module.Type(name))
}

func (r *Room) ask(a *arguments) string {
	fuel, expression := a.number(), a.rest()
	value, _, e := r.module.Eval(expression, fuel)
	demand(e)
	return "ask " + must(r.module.Infer(expression)) + " : " + value
}

func (r *Room) price(a *arguments) string {
	width, height := a.number(), a.number()
	rule := a.token()
	var blanks []api.Blank
	for a.hasMore() {
		n := a.group(2)
		blanks = append(blanks, api.Blank{W: n[0], H: n[1]})
	}
	waste := []api.Step{{Kind: api.Waste}}
	must(carve.Worth(width, height, blanks, waste)) // a right plan for every task, so that this is a task
	for i := range blanks {
		b := &blanks[i]
		b.Value = r.priceOf(rule, b.W, b.H)
	}
	return phrase("price", r.bookBest(width, height, blanks))
}

// priceOf returns what a rule says that a blank is worth.
func (r *Room) priceOf(rule string, width, height int) int {
	expression := "((" + rule + " " + strconv.Itoa(width) + ") " + strconv.Itoa(height) + ")"
	text, _, e := r.module.Eval(expression, api.MaxFuel)
	demand(e)
	price, err := strconv.Atoi(text)
	if err != nil || price < 0 || price > api.MaxPrice {
		panic(api.ErrArg)
	}
	return price
}
