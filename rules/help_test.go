package rules_test

import (
	"math/rand"
	"strings"
	"testing"

	"silverside/api"
	"silverside/rules"
)

// tree is an expression, a type or a value: a word, or several trees in parentheses.
type tree struct {
	word  string
	parts []tree
}

func word(text string) tree {
	return tree{word: text}
}

// form makes a tree in parentheses that begins with a word.
func form(head string, parts ...tree) tree {
	return tree{parts: append([]tree{word(head)}, parts...)}
}

func (x tree) String() string {
	if x.parts == nil {
		return x.word
	}
	texts := []string{}
	for _, part := range x.parts {
		texts = append(texts, part.String())
	}
	return "(" + strings.Join(texts, " ") + ")"
}

// head is the word that a tree in parentheses begins with, if it does.
func (x tree) head() string {
	if x.parts == nil {
		return ""
	}
	return x.parts[0].word
}

// count counts the words, as the size of a type does.
func (x tree) count() int {
	if x.parts == nil {
		return 1
	}
	count := 0
	for _, part := range x.parts {
		count += part.count()
	}
	return count
}

func areEqual(a, b tree) bool {
	return a.String() == b.String()
}

func tokensOf(text string) []string {
	return strings.Fields(strings.NewReplacer("(", " ( ", ")", " ) ").Replace(text))
}

// treeOf reads a tree whose parentheses are right.
func treeOf(text string) tree {
	open := []tree{{}}
	for _, token := range tokensOf(text) {
		last := len(open) - 1
		switch token {
		case "(":
			open = append(open, tree{parts: []tree{}})
		case ")":
			open[last-1].parts = append(open[last-1].parts, open[last])
			open = open[:last]
		default:
			open[last].parts = append(open[last].parts, word(token))
		}
	}
	return open[0].parts[0]
}

// moduleOf loads a text that is right.
func moduleOf(t *testing.T, text string) rules.Module {
	t.Helper()
	m, at, e := rules.Load(text)
	if at != 0 || e != api.OK {
		t.Fatalf("Load(%s): %d, %d", text, at, e)
	}
	return m
}

// nested puts an expression count times into the place that is written as a dot.
func nested(pattern string, count int, inside string) string {
	before, after, _ := strings.Cut(pattern, ".")
	return strings.Repeat(before, count) + inside + strings.Repeat(after, count)
}

// pairs is an expression of pairs of pairs with this many leaves: it has 4 tokens for each of them, but for 3 tokens.
func pairs(leaves int, leaf string) string {
	if leaves == 1 {
		return leaf
	}
	return "(pair " + pairs(leaves/2, leaf) + " " + pairs(leaves-leaves/2, leaf) + ")"
}

// doubled binds x count times to a pair of what it was, so that its type and its value have 2^count leaves.
func doubled(count int, inside string) string {
	return nested("(let x (pair x x) .)", count, inside)
}

// maker makes random expressions.
type maker struct {
	*rand.Rand
	names []string // that may be bound
}

func (r maker) pick(texts ...string) string {
	return texts[r.Intn(len(texts))]
}

func (r maker) name() tree {
	return word(r.pick(r.names...))
}

// leaf is a name or a literal.
func (r maker) leaf() tree {
	if r.Intn(2) == 0 {
		return r.name()
	}
	return word(r.pick("0", "1", "2", "9007199254740992", "true", "false", "nil"))
}

// any is an expression of any form, which seldom has a type.
func (r maker) any(depth int) tree {
	if depth == 0 || r.Intn(6) == 0 {
		return r.leaf()
	}
	e := func() tree { return r.any(depth - 1) }
	switch r.Intn(12) {
	case 0, 1:
		return form("fn", r.name(), e())
	case 2:
		return form("let", r.name(), e(), e())
	case 3:
		return form("rec", r.name(), r.name(), e(), e())
	case 4:
		return form("if", e(), e(), e())
	case 5:
		return form("case", e(), e(), r.name(), r.name(), e())
	case 6:
		return form(r.pick("first", "second"), e())
	case 7:
		return form(r.pick("pair", "cons"), e(), e())
	case 8, 9:
		return form(r.pick("+", "-", "*", "/", "%", "<", "=", "&", "|"), e(), e())
	}
	return tree{parts: []tree{e(), e()}}
}

// typed is a name and its type.
type typed struct {
	name string
	kind tree
}

// bind lets the name have this type, and hides what it was.
func bind(names []typed, name, kind tree) []typed {
	list := []typed{{name.word, kind}}
	for _, n := range names {
		if n.name != name.word {
			list = append(list, n)
		}
	}
	return list
}

// kind is a random type without variables.
func (r maker) kind(depth int) tree {
	if depth == 0 || r.Intn(3) == 0 {
		return word(r.pick("int", "int", "bool"))
	}
	switch r.Intn(3) {
	case 0:
		return form("list", r.kind(depth-1))
	case 1:
		return form("pair", r.kind(depth-1), r.kind(depth-1))
	}
	return form("fn", r.kind(depth-1), r.kind(depth-1))
}

// of is an expression that has this type, in which these names may be used.
func (r maker) of(kind tree, depth int, names []typed) tree {
	for _, n := range names {
		if areEqual(n.kind, kind) && r.Intn(2) == 0 {
			return word(n.name)
		}
	}
	if depth <= 0 || r.Intn(3) > 0 {
		return r.plain(kind, depth, names)
	}
	e := func(kind tree) tree { return r.of(kind, depth-1, names) }
	a, b, other := r.name(), r.name(), r.kind(1)
	switch r.Intn(6) {
	case 0:
		return form("if", e(word("bool")), e(kind), e(kind))
	case 1:
		return form("let", a, e(other), r.of(kind, depth-1, bind(names, a, other)))
	case 2:
		return tree{parts: []tree{e(form("fn", other, kind)), e(other)}}
	case 3:
		list := form("list", other)
		return form("case", e(list), e(kind), a, b, r.of(kind, depth-1, bind(bind(names, a, other), b, list)))
	case 4:
		if r.Intn(2) == 0 {
			return form("first", e(form("pair", kind, other)))
		}
		return form("second", e(form("pair", other, kind)))
	}
	inside := bind(names, a, form("fn", word("int"), other))
	body := form("if", form("<", b, word("1")), r.of(other, 0, nil), r.of(other, depth-1, bind(inside, b, word("int"))))
	return form("rec", a, b, body, r.of(kind, depth-1, inside))
}

// plain is an expression of the form that makes values of this type.
func (r maker) plain(kind tree, depth int, names []typed) tree {
	e := func(kind tree) tree { return r.of(kind, depth-1, names) }
	switch kind.head() {
	case "list":
		if depth <= 0 || r.Intn(3) == 0 {
			return word("nil")
		}
		return form("cons", e(kind.parts[1]), e(kind))
	case "pair":
		return form("pair", e(kind.parts[1]), e(kind.parts[2]))
	case "fn":
		a := r.name()
		return form("fn", a, r.of(kind.parts[2], depth-1, bind(names, a, kind.parts[1])))
	}
	if kind.word == "int" {
		if depth <= 0 || r.Intn(3) == 0 {
			return word(r.pick("0", "1", "2", "3", "7", "94906266"))
		}
		return form(r.pick("+", "-", "*", "/", "%"), e(kind), e(kind))
	}
	if depth <= 0 || r.Intn(3) == 0 {
		return word(r.pick("true", "false"))
	}
	if r.Intn(2) == 0 {
		return form(r.pick("<", "="), e(word("int")), e(word("int")))
	}
	return form(r.pick("&", "|"), e(kind), e(kind))
}
