package rules

import (
	"silverside/api"
)

// principalType returns the principal type of an expression, and its string. What it returns shares no nodes with those that the inference needed.
func principalType(x expression) (*typeNode, string) {
	in := &inference{}
	t := in.typeOf(x, nil)
	for _, node := range in.made {
		node.measure()
	}
	if t.measure() > api.MaxNodes {
		panic(api.ErrFull)
	}
	text := (&typeText{}).of(t)
	return (&inference{}).instance(t), text
}

// inference keeps the nodes that were made: each of them must belong to a type, whether it is a part of the result or not.
type inference struct {
	made []*typeNode
}

func (in *inference) node(word string, parts ...*typeNode) *typeNode {
	t := &typeNode{word: word, parts: parts}
	in.made = append(in.made, t)
	return t
}

func (in *inference) variable() *typeNode {
	return in.node("")
}

// typeOf returns the type of an expression, whose names have the types that the scope says.
func (in *inference) typeOf(x expression, s *scope[*typeNode]) *typeNode {
	switch x := x.(type) {
	case literal:
		return in.ofLiteral(x)
	case name:
		return s.find(string(x))
	case *definition:
		return in.instance(x.kind)
	case function:
		return in.ofFunction(x, in.variable(), s)
	case application:
		f := in.typeOf(x.function, s)
		argument := in.typeOf(x.argument, s)
		whole := in.variable()
		unify(f, in.node("fn", argument, whole))
		return whole
	case let:
		return in.typeOf(x.in, s.bind(x.name, in.typeOf(x.is, s)))
	case recursion:
		parameter, result := in.variable(), in.variable()
		f := in.node("fn", parameter, result)
		inner := s.bind(x.name, f)
		unify(f, in.ofFunction(x.is, parameter, inner))
		return in.typeOf(x.in, inner)
	case condition:
		unify(in.typeOf(x.test, s), in.node("bool"))
		whole := in.typeOf(x.yes, s)
		unify(whole, in.typeOf(x.no, s))
		return whole
	case choice:
		element := in.variable()
		list := in.node("list", element)
		unify(list, in.typeOf(x.of, s))
		whole := in.typeOf(x.none, s)
		unify(whole, in.typeOf(x.some, s.bind(x.first, element).bind(x.rest, list)))
		return whole
	}
	o := x.(operation) // no other form is left
	var parts []*typeNode
	for _, part := range o.parts {
		parts = append(parts, in.typeOf(part, s))
	}
	return in.ofOperation(o.word, parts)
}

func (in *inference) ofLiteral(x literal) *typeNode {
	switch x.is.(type) {
	case number:
		return in.node("int")
	case truth:
		return in.node("bool")
	}
	return in.node("list", in.variable())
}

func (in *inference) ofFunction(f function, parameter *typeNode, s *scope[*typeNode]) *typeNode {
	return in.node("fn", parameter, in.typeOf(f.body, s.bind(f.parameter, parameter)))
}

// ofOperation returns the type of an operation with parts of these types.
func (in *inference) ofOperation(word string, parts []*typeNode) *typeNode {
	switch word {
	case "pair":
		return in.node("pair", parts[0], parts[1])
	case "first", "second":
		first, second := in.variable(), in.variable()
		unify(parts[0], in.node("pair", first, second))
		if word == "first" {
			return first
		}
		return second
	case "cons":
		list := in.node("list", parts[0])
		unify(list, parts[1])
		return list
	case "&", "|":
		return in.ofSimple(parts, "bool", "bool")
	case "<", "=":
		return in.ofSimple(parts, "int", "bool")
	}
	return in.ofSimple(parts, "int", "int")
}

// ofSimple returns the type of an operation whose parts are all of one type without parts.
func (in *inference) ofSimple(parts []*typeNode, from, to string) *typeNode {
	for _, part := range parts {
		unify(part, in.node(from))
	}
	return in.node(to)
}

// instance copies a type, with new variables.
func (in *inference) instance(t *typeNode) *typeNode {
	copies := map[*typeNode]*typeNode{}
	var copyOf func(t *typeNode) *typeNode
	copyOf = func(t *typeNode) *typeNode {
		t = t.root()
		if twin := copies[t]; twin != nil {
			return twin
		}
		twin := in.node(t.word)
		for _, part := range t.parts {
			twin.parts = append(twin.parts, copyOf(part))
		}
		copies[t] = twin
		return twin
	}
	return copyOf(t)
}
