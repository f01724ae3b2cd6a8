package rules_test

import (
	"fmt"
	"math/big"
	"regexp"
	"slices"
	"strings"

	"silverside/api"
)

// model is the chapter's text told once more: it has the expressions of the definitions, by their names.
type model map[string]tree

var (
	aName    = regexp.MustCompile(`^[a-z]{1,16}$`)
	aNumeral = regexp.MustCompile(`^(0|[1-9][0-9]*)$`)
	reserved = strings.Fields("true false nil fn let rec if pair first second cons case def")
	onePart  = strings.Fields("first second")
	twoParts = strings.Fields("pair cons + - * / % < = & |")
	greatest = big.NewInt(1 << 53)
)

func isName(token string) bool {
	return aName.MatchString(token) && !slices.Contains(reserved, token)
}

func isNumeral(token string) bool {
	if !aNumeral.MatchString(token) {
		return false
	}
	n, _ := new(big.Int).SetString(token, 10)
	return n.Cmp(greatest) <= 0
}

// isExpression replaces the innermost parentheses, one pair after the other, by E, if they are one of the forms.
func isExpression(text string) bool {
	rest := tokensOf(text)
	if len(rest) > 1000 || depthOf(rest) > 64 {
		return false
	}
	for i, token := range rest {
		switch {
		case isName(token):
			rest[i] = "N"
		case isNumeral(token) || token == "true" || token == "false" || token == "nil":
			rest[i] = "E"
		case token == "E" || token == "N" || token == "OP" || token == "ONE" || token == "TWO":
			return false
		case slices.Contains(twoParts, token):
			rest[i] = "TWO"
		case slices.Contains(onePart, token):
			rest[i] = "ONE"
		}
	}
	for {
		end := slices.Index(rest, ")")
		if end < 0 {
			return len(rest) == 1 && (rest[0] == "E" || rest[0] == "N")
		}
		start := end - 1
		for start >= 0 && rest[start] != "(" {
			start--
		}
		if start < 0 || !isForm(rest[start+1:end]) {
			return false
		}
		rest = slices.Replace(rest, start, end+1, "E")
	}
}

// isForm compares words with the forms, in which N is a name, and E a name or anything else that is an expression.
func isForm(words []string) bool {
	for _, pattern := range []string{"fn N E", "E E", "let N E E", "rec N N E E", "if E E E", "ONE E", "TWO E E", "case E E N N E"} {
		parts := strings.Fields(pattern)
		if slices.EqualFunc(words, parts, func(w, part string) bool { return w == part || w == "N" && part == "E" }) {
			return true
		}
	}
	return false
}

func depthOf(tokens []string) int {
	depth, deepest := 0, 0
	for _, token := range tokens {
		switch token {
		case "(":
			depth++
		case ")":
			depth--
		}
		deepest = max(deepest, depth)
	}
	return deepest
}

// isBound reports whether each name is bound, or defined.
func (m model) isBound(x tree, bound ...string) bool {
	if x.parts == nil {
		_, isDefined := m[x.word]
		return !isName(x.word) || isDefined || slices.Contains(bound, x.word)
	}
	p := x.parts
	with := func(x tree, names ...tree) bool {
		list := slices.Clone(bound)
		for _, name := range names {
			list = append(list, name.word)
		}
		return m.isBound(x, list...)
	}
	switch x.head() {
	case "fn":
		return with(p[2], p[1])
	case "let":
		return with(p[2]) && with(p[3], p[1])
	case "rec":
		return with(p[3], p[1], p[2]) && with(p[4], p[1])
	case "case":
		return with(p[1]) && with(p[2]) && with(p[5], p[3], p[4])
	}
	for _, part := range p {
		if !with(part) {
			return false
		}
	}
	return true
}

// infer says what Infer returns. Unlike package rules, it lists all pairs of types that must be the same, and then replaces variables in what is left of the list, until nothing is.
func (m model) infer(text string) (string, api.Errno) {
	if !isExpression(text) {
		return "", api.ErrSyntax
	}
	x := treeOf(text)
	if !m.isBound(x) {
		return "", api.ErrName
	}
	t, e := m.principal(x)
	if e != api.OK {
		return "", e
	}
	names, variables := rename(t)
	if names.count() > 256 || variables > 26 {
		return "", api.ErrFull
	}
	return names.String(), api.OK
}

// rename gives the variables letters.
func rename(t tree) (tree, int) {
	known := []string{}
	var of func(t tree) tree
	of = func(t tree) tree {
		if t.parts != nil {
			twin := tree{parts: []tree{}}
			for _, part := range t.parts {
				twin.parts = append(twin.parts, of(part))
			}
			return twin
		}
		if !isVariable(t) {
			return t
		}
		if !slices.Contains(known, t.word) {
			known = append(known, t.word)
		}
		return word(string(rune('a' + slices.Index(known, t.word))))
	}
	twin := of(t)
	return twin, len(known)
}

func isVariable(t tree) bool {
	return strings.HasPrefix(t.word, "?")
}

func (m model) principal(x tree) (tree, api.Errno) {
	s := &system{model: m}
	t := s.of(x, map[string]tree{})
	for len(s.pairs) > 0 {
		a, b := s.pairs[0][0], s.pairs[0][1]
		s.pairs = s.pairs[1:]
		if isVariable(b) {
			a, b = b, a
		}
		switch {
		case areEqual(a, b):
		case isVariable(a):
			if strings.Contains(b.String()+" ", a.word+" ") || strings.Contains(b.String(), a.word+")") {
				return tree{}, api.ErrType
			}
			t = replace(t, a.word, b)
			for i, pair := range s.pairs {
				s.pairs[i] = [2]tree{replace(pair[0], a.word, b), replace(pair[1], a.word, b)}
			}
		case len(a.parts) != len(b.parts) || a.head() != b.head() || a.word != b.word:
			return tree{}, api.ErrType
		default:
			for i := range a.parts {
				s.same(a.parts[i], b.parts[i])
			}
		}
	}
	return t, api.OK
}

// replace puts a type, or an expression, at all places of a word, whatever binds it.
func replace(t tree, name string, by tree) tree {
	if t.parts == nil {
		if t.word == name {
			return by
		}
		return t
	}
	twin := tree{parts: []tree{}}
	for _, part := range t.parts {
		twin.parts = append(twin.parts, replace(part, name, by))
	}
	return twin
}

// system is a list of pairs of types that must be the same.
type system struct {
	model     model
	pairs     [][2]tree
	variables int
}

func (s *system) variable() tree {
	s.variables++
	return word(fmt.Sprint("?", s.variables))
}

func (s *system) same(a, b tree) tree {
	s.pairs = append(s.pairs, [2]tree{a, b})
	return a
}

func with(names map[string]tree, name, is tree) map[string]tree {
	twin := map[string]tree{name.word: is}
	for k, v := range names {
		if k != name.word {
			twin[k] = v
		}
	}
	return twin
}

func (s *system) of(x tree, names map[string]tree) tree {
	if x.parts == nil {
		return s.ofWord(x, names)
	}
	p := x.parts
	a, b := s.variable(), s.variable()
	all := func(want string, parts []tree, result string) tree {
		for _, part := range parts {
			s.same(s.of(part, names), word(want))
		}
		return word(result)
	}
	switch x.head() {
	case "fn":
		return form("fn", a, s.of(p[2], with(names, p[1], a)))
	case "let":
		return s.of(p[3], with(names, p[1], s.of(p[2], names)))
	case "rec":
		inside := with(names, p[1], form("fn", a, b))
		s.same(s.of(p[3], with(inside, p[2], a)), b)
		return s.of(p[4], inside)
	case "if":
		s.same(s.of(p[1], names), word("bool"))
		return s.same(s.of(p[2], names), s.of(p[3], names))
	case "pair":
		return form("pair", s.of(p[1], names), s.of(p[2], names))
	case "first":
		s.same(s.of(p[1], names), form("pair", a, b))
		return a
	case "second":
		s.same(s.of(p[1], names), form("pair", a, b))
		return b
	case "cons":
		return s.same(form("list", s.of(p[1], names)), s.of(p[2], names))
	case "case":
		s.same(s.of(p[1], names), form("list", a))
		inside := with(with(names, p[3], a), p[4], form("list", a))
		return s.same(s.of(p[2], names), s.of(p[5], inside))
	case "+", "-", "*", "/", "%":
		return all("int", p[1:], "int")
	case "<", "=":
		return all("int", p[1:], "bool")
	case "&", "|":
		return all("bool", p[1:], "bool")
	}
	s.same(s.of(p[0], names), form("fn", s.of(p[1], names), b))
	return b
}

// ofWord infers the type of what is defined once more, for each place where it is used.
func (s *system) ofWord(x tree, names map[string]tree) tree {
	if t, isKnown := names[x.word]; isKnown {
		return t
	}
	switch x.word {
	case "true", "false":
		return word("bool")
	case "nil":
		return form("list", s.variable())
	}
	if isNumeral(x.word) {
		return word("int")
	}
	return s.of(s.model[x.word], map[string]tree{})
}

// run is an evaluation that puts values in the places of names: a value stands in an expression as (!value V), and a function is (!fn N E), or (!rec N N E).
type run struct {
	model model
	fuel  int
}

// evaluate says what Raw returns for an expression without errors of syntax and names.
func (m model) evaluate(text string, fuel int) (result string, used int, e api.Errno) {
	defer func() {
		if wrong := recover(); wrong != nil {
			result, used, e = "", 0, wrong.(api.Errno)
		}
	}()
	r := &run{m, fuel}
	v := r.value(treeOf(text))
	result = textOf(v)
	if len(result) > 16384 {
		return "", 0, api.ErrFull
	}
	return result, fuel - r.fuel, api.OK
}

func textOf(v tree) string {
	switch v.head() {
	case "!fn", "!rec":
		return "fn"
	case "pair", "cons":
		return "(" + v.head() + " " + textOf(v.parts[1]) + " " + textOf(v.parts[2]) + ")"
	}
	return v.word
}

// put puts a value in the places of a name, but for those where it is bound once more.
func put(x tree, name, v tree) tree {
	if x.parts == nil {
		if x.word == name.word {
			return form("!value", v)
		}
		return x
	}
	keeps := func(i int) bool { return false }
	binds := func(i int) bool { return x.parts[i].word == name.word }
	switch x.head() {
	case "!value":
		return x
	case "fn":
		keeps = func(i int) bool { return i < 2 || binds(1) }
	case "let":
		keeps = func(i int) bool { return i < 2 || i == 3 && binds(1) }
	case "rec":
		keeps = func(i int) bool { return i < 3 || binds(1) || i == 3 && binds(2) }
	case "case":
		keeps = func(i int) bool { return i == 0 || i == 3 || i == 4 || i == 5 && (binds(3) || binds(4)) }
	}
	twin := tree{parts: []tree{}}
	for i, part := range x.parts {
		if !keeps(i) {
			part = put(part, name, v)
		}
		twin.parts = append(twin.parts, part)
	}
	return twin
}

func (r *run) value(x tree) tree {
	if r.fuel == 0 {
		panic(api.ErrFuel)
	}
	r.fuel--
	if x.parts == nil {
		if isName(x.word) {
			return r.value(r.model[x.word])
		}
		return x
	}
	p := x.parts
	switch x.head() {
	case "!value":
		return p[1]
	case "fn":
		return form("!fn", p[1], p[2])
	case "let":
		return r.value(put(p[3], p[1], r.value(p[2])))
	case "rec":
		return r.value(put(p[4], p[1], form("!rec", p[1], p[2], p[3])))
	case "if":
		return r.value(p[choose(r.value(p[1]))])
	case "case":
		return r.caseOf(p, r.value(p[1]))
	}
	isOperation := slices.Contains(append(onePart, twoParts...), x.head())
	values := []tree{}
	for i, part := range p {
		if i > 0 || !isOperation {
			values = append(values, r.value(part))
		}
	}
	if isOperation {
		return operate(x.head(), values)
	}
	return r.apply(values[0], values[1])
}

func choose(v tree) int {
	stuckUnless(v.word == "true" || v.word == "false")
	return map[string]int{"true": 2, "false": 3}[v.word]
}

func (r *run) caseOf(p []tree, list tree) tree {
	if list.word == "nil" {
		return r.value(p[2])
	}
	stuckUnless(list.head() == "cons")
	return r.value(put(put(p[5], p[4], list.parts[2]), p[3], list.parts[1]))
}

func (r *run) apply(f, argument tree) tree {
	stuckUnless(f.head() == "!fn" || f.head() == "!rec")
	if f.head() == "!fn" {
		return r.value(put(f.parts[2], f.parts[1], argument))
	}
	return r.value(put(put(f.parts[3], f.parts[2], argument), f.parts[1], f))
}

func stuckUnless(isRight bool) {
	if !isRight {
		panic(api.ErrStuck)
	}
}

func operate(head string, values []tree) tree {
	left, right := values[0], values[len(values)-1]
	switch head {
	case "pair":
		return form("pair", left, right)
	case "first", "second":
		stuckUnless(left.head() == "pair")
		return left.parts[map[string]int{"first": 1, "second": 2}[head]]
	case "cons":
		stuckUnless(right.word == "nil" || right.head() == "cons")
		return form("cons", left, right)
	case "&":
		return word(fmt.Sprint(choose(left)+choose(right) == 4))
	case "|":
		return word(fmt.Sprint(choose(left)+choose(right) < 6))
	}
	a, isFirst := new(big.Int).SetString(left.word, 10)
	b, isSecond := new(big.Int).SetString(right.word, 10)
	stuckUnless(isFirst && isSecond)
	switch head {
	case "<":
		return word(fmt.Sprint(a.Cmp(b) < 0))
	case "=":
		return word(fmt.Sprint(a.Cmp(b) == 0))
	}
	return word(calculate(head, a, b).String())
}

func calculate(head string, a, b *big.Int) *big.Int {
	result := new(big.Int)
	if (head == "/" || head == "%") && b.Sign() == 0 {
		panic(api.ErrValue)
	}
	switch head {
	case "+":
		result.Add(a, b)
	case "-":
		result.Sub(a, b)
	case "*":
		result.Mul(a, b)
	case "/":
		result.Quo(a, b)
	case "%":
		result.Rem(a, b)
	}
	if new(big.Int).Abs(result).Cmp(greatest) > 0 {
		panic(api.ErrValue)
	}
	return result
}

// modelOf reads definitions that are right.
func modelOf(text string) model {
	m := model{}
	for _, definition := range treeOf("(" + text + ")").parts {
		m[definition.parts[1].word] = definition.parts[2]
	}
	return m
}
