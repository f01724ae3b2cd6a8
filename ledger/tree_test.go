package ledger

import (
	"fmt"
	"math/bits"
	"math/rand"
	"slices"
	"testing"

	"silverside/api"
)

// checkTree checks the sizes, the balance and the order of a tree.
func checkTree(t *testing.T, n *node) {
	t.Helper()
	var last *api.Item
	for item := range n.from("") {
		if last != nil && last.Key >= item.Key {
			t.Fatalf("%q is before %q", last.Key, item.Key)
		}
		last = &item
	}
	var check func(n *node) int
	check = func(n *node) int {
		if n == nil {
			return 0
		}
		depth := 1 + max(check(n.left), check(n.right))
		a, b := n.left.weight(), n.right.weight()
		if n.size != 1+n.left.count()+n.right.count() || a > maxTilt*b || b > maxTilt*a {
			t.Fatalf("%q: size %d, weights %d and %d", n.item.Key, n.size, a, b)
		}
		return depth
	}
	// With sides of at most three quarters, a tree of weight w is at most log(w) / log(4/3) deep, which is less than 2.5 times as deep as the best one.
	if depth := check(n); 2*depth > 5*bits.Len(uint(n.weight())) {
		t.Fatalf("%d items are %d deep", n.count(), depth)
	}
}

// nodesOf returns all nodes of a tree.
func nodesOf(n *node, into map[*node]bool) map[*node]bool {
	if n != nil {
		into[n] = true
		nodesOf(n.left, into)
		nodesOf(n.right, into)
	}
	return into
}

func itemOf(n int) api.Item {
	return api.Item{Key: fmt.Sprintf("%05d", n), Value: n}
}

// Trees stay in balance, whatever the order in which items come and go.
func TestBalance(t *testing.T) {
	const many = 1500
	orders := map[string]func(i int) int{
		"up":    func(i int) int { return i },
		"down":  func(i int) int { return many - 1 - i },
		"ends":  func(i int) int { return i*(1-i%2) + (many-i)*(i%2) },
		"mixed": func(i int) int { return i * 1009 % many },
	}
	for _, in := range orders {
		for _, out := range orders {
			var n *node
			for i := range many {
				n = n.with(itemOf(in(i)))
				if i%25 == 0 {
					checkTree(t, n)
				}
			}
			checkTree(t, n)
			for i := range many {
				n = n.without(itemOf(out(i)).Key)
				if i%25 == 0 {
					checkTree(t, n)
				}
			}
			if n != nil {
				t.Errorf("%d items are left", n.count())
			}
		}
	}
}

// Trees in which items come and go at random have the same items as a list.
func TestRandomTrees(t *testing.T) {
	r := rand.New(rand.NewSource(81))
	for _, many := range []int{3, 10, 40, 200, 1000} {
		var n *node
		list := make([]int, many)
		for range 4000 {
			i := r.Intn(many)
			if r.Intn(2) == 0 {
				list[i] = 1 + r.Intn(3)
				n = n.with(api.Item{Key: itemOf(i).Key, Value: list[i]})
			} else {
				list[i] = 0
				n = n.without(itemOf(i).Key)
			}
			if r.Intn(20) > 0 {
				continue
			}
			checkTree(t, n)
			for i, value := range list {
				if got, isThere := n.value(itemOf(i).Key); got != value || isThere != (value > 0) {
					t.Fatalf("value of %d: %d, %t, not %d", i, got, isThere, value)
				}
			}
		}
	}
}

// Ways: versions share the nodes of their trees, and comparing them does not look into those.
func TestShared(t *testing.T) {
	var n *node
	for i := range 4000 {
		n = n.with(itemOf(i))
	}
	before := nodesOf(n, map[*node]bool{})
	for i := 0; i < 4000; i += 7 {
		for _, other := range []*node{n.with(api.Item{Key: itemOf(i).Key, Value: -1}), n.with(api.Item{Key: itemOf(i).Key + "x"}), n.without(itemOf(i).Key)} {
			fresh := 0
			for node := range nodesOf(other, map[*node]bool{}) {
				if !before[node] {
					fresh++
				}
			}
			if fresh > 40 {
				t.Fatalf("%d of %d nodes are new", fresh, other.count())
			}
			if steps := testing.AllocsPerRun(1, func() {
				if list := slices.Collect(differences(n, other)); len(list) != 1 {
					t.Fatalf("differences: %v", list)
				}
			}); steps > 400 {
				t.Fatalf("%.0f pieces of memory for one difference", steps)
			}
		}
	}
}

// A loop over differences may be left at any of them.
func TestDifferencesLeft(t *testing.T) {
	var a, b *node
	for i := range 100 {
		a, b = a.with(itemOf(i)), b.with(itemOf(2*i))
	}
	all := slices.Collect(differences(a, b))
	for most := range len(all) {
		var list []api.Change
		for change := range differences(a, b) {
			list = append(list, change)
			if len(list) > most {
				break
			}
		}
		if !slices.Equal(list, all[:most+1]) {
			t.Errorf("the first %d differences: %v", most+1, list)
		}
	}
}

// What no call can ask for is not kept.
func TestNothingIsKept(t *testing.T) {
	l := New()
	var list []*Tx
	for range 100 {
		x, _ := l.Begin()
		x.Add("a", 1)
		x.Scan("", "", 1)
		x.Commit()
		list = append(list, x)
	}
	l.Forget(100)
	if len(l.states) != 1 || len(l.open) != 0 {
		t.Errorf("%d states, %d open transactions", len(l.states), len(l.open))
	}
	for _, x := range list {
		if x.state != nil || x.writes != nil || x.keys != nil || x.spans != nil {
			t.Errorf("an ended transaction keeps %v", *x)
		}
	}
}
