package rules

import (
	"slices"

	"silverside/api"
)

const letters = "abcdefghijklmnopqrstuvwxyz" // of names, and the variables of types

// inWork marks a node while its parts are measured.
const inWork = -1

// typeNode is a node of a type: a word (int, bool, list, pair or fn) with its parts, or a variable, which has no word.
type typeNode struct {
	word  string
	parts []*typeNode
	same  *typeNode // a node that this one is the same as, or nil
	size  int       // 0: not known yet
}

// root returns the node that stands for all those that are the same. On its way it shortens the way.
func (t *typeNode) root() *typeNode {
	for t.same != nil {
		if t.same.same != nil {
			t.same = t.same.same
		}
		t = t.same
	}
	return t
}

// unify makes two types the same. That a type would then be a part of itself is left to measure to find: unify ends all the same, as each of its steps leaves fewer roots.
func unify(a, b *typeNode) {
	a, b = a.root(), b.root()
	if a == b {
		return
	}
	if a.word == "" {
		a.same = b
		return
	}
	if b.word == "" {
		b.same = a
		return
	}
	if a.word != b.word {
		panic(api.ErrType)
	}
	a.same = b
	for i, part := range a.parts {
		unify(part, b.parts[i])
	}
}

// measure returns the size of the type, or MaxNodes + 1 if it is greater. Sizes are kept in the nodes, as a type may contain the same node at very many places.
func (t *typeNode) measure() int {
	t = t.root()
	if t.size == inWork {
		panic(api.ErrType)
	}
	if t.size > 0 {
		return t.size
	}
	t.size = inWork
	size := 1
	for _, part := range t.parts {
		size += part.measure()
	}
	t.size = min(size, api.MaxNodes+1)
	return t.size
}

// typeText makes the string of a type.
type typeText struct {
	variables []*typeNode // those that have letters
}

func (w *typeText) of(t *typeNode) string {
	t = t.root()
	if t.word == "" {
		return w.letter(t)
	}
	if len(t.parts) == 0 {
		return t.word
	}
	text := "(" + t.word
	for _, part := range t.parts {
		text += " " + w.of(part)
	}
	return text + ")"
}

func (w *typeText) letter(variable *typeNode) string {
	at := slices.Index(w.variables, variable)
	if at < 0 {
		at = len(w.variables)
		w.variables = append(w.variables, variable)
	}
	if at >= len(letters) {
		panic(api.ErrFull)
	}
	return letters[at : at+1]
}
