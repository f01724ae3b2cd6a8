package ledger

import (
	"iter"
	"maps"
	"slices"
	"strings"

	"silverside/api"
)

// node is the root of a tree of items, in ascending order of their keys; nil is the empty one. Nodes never change, so that a tree made from another one shares all nodes with it but those on the way to what is new.
type node struct {
	item        api.Item
	left, right *node
	size        int
}

func (n *node) count() int {
	if n == nil {
		return 0
	}
	return n.size
}

// value returns the value of a key, and whether it is there.
func (n *node) value(key string) (int, bool) {
	for n != nil {
		switch order := strings.Compare(key, n.item.Key); {
		case order < 0:
			n = n.left
		case order > 0:
			n = n.right
		default:
			return n.item.Value, true
		}
	}
	return 0, false
}

// from visits the items from a key on, in ascending order.
func (n *node) from(lo string) iter.Seq[api.Item] {
	return func(yield func(api.Item) bool) {
		n.visit(lo, yield)
	}
}

// visit reports whether more items are wanted.
func (n *node) visit(lo string, yield func(api.Item) bool) bool {
	if n == nil {
		return true
	}
	if n.item.Key < lo {
		return n.right.visit(lo, yield)
	}
	return n.left.visit(lo, yield) && yield(n.item) && n.right.visit(lo, yield)
}

// changedBy returns the tree with these writes.
func (n *node) changedBy(writes map[string]write) *node {
	for _, key := range slices.Sorted(maps.Keys(writes)) {
		if w := writes[key]; w.isRemoved {
			n = n.without(key)
		} else {
			n = n.with(api.Item{Key: key, Value: w.value})
		}
	}
	return n
}

// with returns the tree with an item, in the place of the one with the same key.
func (n *node) with(item api.Item) *node {
	if n == nil {
		return joined(nil, item, nil)
	}
	switch order := strings.Compare(item.Key, n.item.Key); {
	case order < 0:
		return balanced(n.left.with(item), n.item, n.right)
	case order > 0:
		return balanced(n.left, n.item, n.right.with(item))
	}
	return joined(n.left, item, n.right)
}

// without returns the tree without a key.
func (n *node) without(key string) *node {
	if n == nil {
		return nil
	}
	switch order := strings.Compare(key, n.item.Key); {
	case order < 0:
		return balanced(n.left.without(key), n.item, n.right)
	case order > 0:
		return balanced(n.left, n.item, n.right.without(key))
	case n.right == nil:
		return n.left
	}
	next := n.right.least()
	return balanced(n.left, next, n.right.without(next.Key))
}

// least returns the item with the least key of a tree that is not empty.
func (n *node) least() api.Item {
	for n.left != nil {
		n = n.left
	}
	return n.item
}

func joined(left *node, item api.Item, right *node) *node {
	return &node{item: item, left: left, right: right, size: left.count() + 1 + right.count()}
}

// A side of a node may weigh at most maxTilt times as much as the other one, which bounds the depth by the logarithm of the size. Where an item more or less breaks this, it holds again after one turn: a double one if the inner part of the heavy side weighs at least innerTilt times as much as the outer one.
const (
	maxTilt   = 3
	innerTilt = 2
)

func (n *node) weight() int {
	return n.count() + 1
}

// balanced joins two sides of which one has had an item more or less since they were in balance.
func balanced(left *node, item api.Item, right *node) *node {
	switch {
	case right.weight() > maxTilt*left.weight():
		return turnedLeft(left, item, right)
	case left.weight() > maxTilt*right.weight():
		return turnedRight(left, item, right)
	}
	return joined(left, item, right)
}

func turnedLeft(left *node, item api.Item, right *node) *node {
	inner, outer := right.left, right.right
	if inner.weight() < innerTilt*outer.weight() {
		return joined(joined(left, item, inner), right.item, outer)
	}
	return joined(joined(left, item, inner.left), inner.item, joined(inner.right, right.item, outer))
}

func turnedRight(left *node, item api.Item, right *node) *node {
	outer, inner := left.left, left.right
	if inner.weight() < innerTilt*outer.weight() {
		return joined(outer, left.item, joined(inner, item, right))
	}
	return joined(joined(outer, left.item, inner.left), inner.item, joined(inner.right, item, right))
}
