package rules

import (
	"silverside/api"
)

// evaluate returns the string of the value of an expression, and how much of the fuel was consumed.
func evaluate(x expression, fuel int) (string, int) {
	if fuel < 0 || fuel > api.MaxFuel {
		panic(api.ErrArg)
	}
	ev := &evaluation{fuel: fuel}
	v := ev.value(x, nil)
	w := &valueText{}
	w.addValue(v)
	return w.String(), fuel - ev.fuel
}

// evaluation has the fuel that is left.
type evaluation struct {
	fuel int
}

// value returns the value of an expression, whose names have the values that the scope says.
func (ev *evaluation) value(x expression, s *scope[value]) value {
	if ev.fuel == 0 {
		panic(api.ErrFuel)
	}
	ev.fuel--
	switch x := x.(type) {
	case literal:
		return x.is
	case name:
		return s.find(string(x))
	case *definition:
		return ev.value(x.body, nil)
	case function:
		return closure{x, s}
	case application:
		f := ev.value(x.function, s)
		argument := ev.value(x.argument, s)
		c := as[closure](f)
		return ev.value(c.body, c.scope.bind(c.parameter, argument))
	case let:
		return ev.value(x.in, s.bind(x.name, ev.value(x.is, s)))
	case recursion:
		inner := s.bind(x.name, nil)
		inner.is = closure{x.is, inner}
		return ev.value(x.in, inner)
	case condition:
		if as[truth](ev.value(x.test, s)) {
			return ev.value(x.yes, s)
		}
		return ev.value(x.no, s)
	case choice:
		c := as[list](ev.value(x.of, s)).cells
		if c == nil {
			return ev.value(x.none, s)
		}
		return ev.value(x.some, s.bind(x.first, c.first).bind(x.rest, list{c.rest}))
	}
	return ev.ofOperation(x.(operation), s) // no other form is left
}

// ofOperation examines no part before all of them were evaluated.
func (ev *evaluation) ofOperation(o operation, s *scope[value]) value {
	var parts []value
	for _, part := range o.parts {
		parts = append(parts, ev.value(part, s))
	}
	switch o.word {
	case "pair":
		return couple{parts[0], parts[1]}
	case "first":
		return as[couple](parts[0]).first
	case "second":
		return as[couple](parts[0]).second
	case "cons":
		return list{&cell{parts[0], as[list](parts[1]).cells}}
	case "&", "|":
		return combine(o.word, as[truth](parts[0]), as[truth](parts[1]))
	case "<", "=":
		return compare(o.word, as[number](parts[0]), as[number](parts[1]))
	}
	return calculate(o.word, as[number](parts[0]), as[number](parts[1]))
}

func combine(word string, a, b truth) truth {
	if word == "&" {
		return a && b
	}
	return a || b
}

func compare(word string, a, b number) truth {
	if word == "<" {
		return a < b
	}
	return a == b
}

func calculate(word string, a, b number) number {
	switch word {
	case "+":
		return checked(a + b)
	case "-":
		return checked(a - b)
	case "*":
		return product(a, b)
	}
	if b == 0 {
		panic(api.ErrValue)
	}
	if word == "/" {
		return a / b
	}
	return a % b
}

// checked returns n, which must be in the range of numbers.
func checked(n number) number {
	if n < -api.MaxInt || n > api.MaxInt {
		panic(api.ErrValue)
	}
	return n
}

// product divides before it multiplies, as the product may be too great for an int.
func product(a, b number) number {
	if b != 0 && max(a, -a) > api.MaxInt/max(b, -b) {
		panic(api.ErrValue)
	}
	return a * b
}
