package rules

import (
	"strconv"
	"strings"

	"silverside/api"
)

// value is what an expression is evaluated to: number, truth, list, couple or closure.
type value interface {
	isValue()
}

type number int

type truth bool

// list is a list; it is empty if cells is nil.
type list struct {
	cells *cell
}

type cell struct {
	first value
	rest  *cell
}

// couple is a pair.
type couple struct {
	first, second value
}

// closure is a function with the bindings of where it was made.
type closure struct {
	function
	scope *scope[value]
}

func (number) isValue()  {}
func (truth) isValue()   {}
func (list) isValue()    {}
func (couple) isValue()  {}
func (closure) isValue() {}

// as returns the value in the form that is needed.
func as[T value](v value) T {
	x, isRight := v.(T)
	if !isRight {
		panic(api.ErrStuck)
	}
	return x
}

// valueText makes the string of a value. It looks at no part for which there is no room: the whole may be far too large to be looked at.
type valueText struct {
	strings.Builder
}

func (w *valueText) add(text string) {
	if w.Len()+len(text) > api.MaxText {
		panic(api.ErrFull)
	}
	w.WriteString(text)
}

func (w *valueText) addValue(v value) {
	switch v := v.(type) {
	case number:
		w.add(strconv.Itoa(int(v)))
	case truth:
		w.add(strconv.FormatBool(bool(v)))
	case list:
		if v.cells == nil {
			w.add("nil")
		} else {
			w.addBoth("cons", v.cells.first, list{v.cells.rest})
		}
	case couple:
		w.addBoth("pair", v.first, v.second)
	case closure:
		w.add("fn")
	}
}

func (w *valueText) addBoth(word string, left, right value) {
	w.add("(" + word + " ")
	w.addValue(left)
	w.add(" ")
	w.addValue(right)
	w.add(")")
}
