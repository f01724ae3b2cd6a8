package ledger

import (
	"iter"
	"strings"

	"silverside/api"
)

// differences visits the keys in which two trees differ, in ascending order.
func differences(from, to *node) iter.Seq[api.Change] {
	return func(yield func(api.Change) bool) {
		compare(from, to, yield)
	}
}

// compare reports whether more differences are wanted. It does not look into nodes that both trees share, so neighbouring versions are compared in few steps.
func compare(from, to *node, yield func(api.Change) bool) bool {
	if from == to {
		return true
	}
	middle := from
	if from == nil {
		middle = to
	}
	key := middle.item.Key
	was, is := from.split(key), to.split(key)
	if !compare(was.less, is.less, yield) {
		return false
	}
	if was.entry != is.entry && !yield(api.Change{Key: key, Was: was.isThere, Is: is.isThere, From: was.value, To: is.value}) {
		return false
	}
	return compare(was.more, is.more, yield)
}

// entry is what a tree has under a key.
type entry struct {
	isThere bool
	value   int
}

// parts are a tree split at a key. They need no balance, as they are not deeper than the tree.
type parts struct {
	less, more *node
	entry
}

func (n *node) split(key string) parts {
	if n == nil {
		return parts{}
	}
	switch order := strings.Compare(key, n.item.Key); {
	case order < 0:
		p := n.left.split(key)
		p.more = joined(p.more, n.item, n.right)
		return p
	case order > 0:
		p := n.right.split(key)
		p.less = joined(n.left, n.item, p.less)
		return p
	}
	return parts{less: n.left, more: n.right, entry: entry{isThere: true, value: n.item.Value}}
}
