package rules

import (
	"slices"
	"strings"

	"silverside/api"
)

const maxName = 16 // letters of a name

// reader reads tokens, one after the other.
type reader struct {
	rest string
}

// hasMore reports whether there is a further token.
func (r *reader) hasMore() bool {
	r.rest = strings.TrimLeft(r.rest, " \n")
	return r.rest != ""
}

// next returns the next token, or the empty string at the end.
func (r *reader) next() string {
	if !r.hasMore() {
		return ""
	}
	end := strings.IndexAny(r.rest, "() \n")
	if end < 0 {
		end = len(r.rest)
	}
	end = max(end, 1) // a parenthesis
	token := r.rest[:end]
	r.rest = r.rest[end:]
	return token
}

// demand reads this token.
func (r *reader) demand(token string) {
	if r.next() != token {
		panic(api.ErrSyntax)
	}
}

// parser reads one expression.
type parser struct {
	*reader
	module       Module
	bound        []string
	tokens, open int
	isUnknown    bool // a name was read that is neither bound nor defined
}

// take returns the next token of the expression.
func (p *parser) take() string {
	p.tokens++
	if p.tokens > api.MaxTerms {
		panic(api.ErrSyntax)
	}
	return p.next()
}

func (p *parser) takeName() string {
	return nameOf(p.take())
}

func (p *parser) expression() expression {
	return p.startingWith(p.take())
}

// within reads an expression in which these names are bound, too.
func (p *parser) within(names ...string) expression {
	outer := len(p.bound)
	p.bound = append(p.bound, names...)
	x := p.expression()
	p.bound = p.bound[:outer]
	return x
}

// startingWith reads an expression whose first token was read.
func (p *parser) startingWith(token string) expression {
	switch token {
	case "(":
		return p.inParentheses()
	case "true":
		return literal{truth(true)}
	case "false":
		return literal{truth(false)}
	case "nil":
		return literal{list{}}
	}
	if n, isNumeral := numeral(token); isNumeral {
		return literal{n}
	}
	return p.meaning(nameOf(token))
}

func (p *parser) inParentheses() expression {
	p.open++
	if p.open > api.MaxNesting {
		panic(api.ErrSyntax)
	}
	x := p.form()
	if p.take() != ")" {
		panic(api.ErrSyntax)
	}
	p.open--
	return x
}

// form reads what is in parentheses.
func (p *parser) form() expression {
	head := p.take()
	switch head {
	case "fn":
		parameter := p.takeName()
		return function{parameter, p.within(parameter)}
	case "let":
		bound := p.takeName()
		is := p.expression()
		return let{bound, is, p.within(bound)}
	case "rec":
		bound := p.takeName()
		parameter := p.takeName()
		body := p.within(bound, parameter)
		return recursion{bound, function{parameter, body}, p.within(bound)}
	case "if":
		return condition{p.expression(), p.expression(), p.expression()}
	case "case":
		of := p.expression()
		none := p.expression()
		first := p.takeName()
		rest := p.takeName()
		return choice{of, none, first, rest, p.within(first, rest)}
	case "first", "second":
		return operation{head, []expression{p.expression()}}
	case "pair", "cons", "+", "-", "*", "/", "%", "<", "=", "&", "|":
		return operation{head, []expression{p.expression(), p.expression()}}
	}
	return application{p.startingWith(head), p.expression()}
}

// meaning returns what stands for this name. It goes on if there is nothing: what follows may be wrong in a way that comes first.
func (p *parser) meaning(word string) expression {
	if slices.Contains(p.bound, word) {
		return name(word)
	}
	if d := p.module.find(word); d != nil {
		return d
	}
	p.isUnknown = true
	return name(word)
}

func (p *parser) refuseUnknown() {
	if p.isUnknown {
		panic(api.ErrName)
	}
}

// nameOf returns the token, which must be a name.
func nameOf(token string) string {
	if len(token) > maxName || strings.Trim(token, letters) != "" {
		panic(api.ErrSyntax)
	}
	switch token {
	case "", "true", "false", "nil", "fn", "let", "rec", "if", "pair", "first", "second", "cons", "case", "def":
		panic(api.ErrSyntax)
	}
	return token
}

// numeral returns the number that the token is the numeral of, if any.
func numeral(token string) (number, bool) {
	if token == "" || token[0] == '0' && token != "0" {
		return 0, false
	}
	n := 0
	for _, digit := range []byte(token) {
		if digit < '0' || digit > '9' {
			return 0, false
		}
		n = 10*n + int(digit-'0')
		if n > api.MaxInt {
			return 0, false
		}
	}
	return number(n), true
}
