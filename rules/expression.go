package rules

// expression is a node of an expression: literal, name, *definition, function, application, let, recursion, condition, choice or operation.
type expression interface {
	isExpression()
}

// literal is a numeral, true, false or nil.
type literal struct {
	is value
}

// name is a name that is bound. (One that is defined is its definition.)
type name string

type function struct {
	parameter string
	body      expression
}

type application struct {
	function, argument expression
}

type let struct {
	name   string
	is, in expression
}

type recursion struct {
	name string
	is   function
	in   expression
}

type condition struct {
	test, yes, no expression
}

// choice is the expression that begins with case.
type choice struct {
	of, none    expression
	first, rest string
	some        expression
}

// operation is an expression all of whose parts are evaluated: its word is pair, first, second, cons, or one of + - * / % < = & |.
type operation struct {
	word  string
	parts []expression
}

func (literal) isExpression()     {}
func (name) isExpression()        {}
func (*definition) isExpression() {}
func (function) isExpression()    {}
func (application) isExpression() {}
func (let) isExpression()         {}
func (recursion) isExpression()   {}
func (condition) isExpression()   {}
func (choice) isExpression()      {}
func (operation) isExpression()   {}

// scope is a name that is bound, within others: to its type, or to its value. A nil pointer is the scope without names.
type scope[T any] struct {
	name  string
	is    T
	outer *scope[T]
}

func (s *scope[T]) bind(name string, is T) *scope[T] {
	return &scope[T]{name: name, is: is, outer: s}
}

// find returns the innermost binding of a name, which has one: the parser has seen to that.
func (s *scope[T]) find(name string) T {
	for s.name != name {
		s = s.outer
	}
	return s.is
}
