package bench

// arc leads from one node of a network to another one. Between two nodes there is at most one arc, so that arcs with equal nodes are the same arc.
type arc struct {
	from, to int
}

func (a arc) back() arc {
	return arc{from: a.to, to: a.from}
}

// The nodes of every network: its source, its sink, and others from first on.
const (
	source = iota
	sink
	first
)

// network is what flows from the source to the sink.
type network struct {
	room map[arc]int // how much more may flow along an arc; for the way back along one, how much of its flow may be taken back
	next [][]int     // for each node, those at the other end of its arcs
}

func newNetwork(nodes int) *network {
	return &network{room: map[arc]int{}, next: make([][]int, nodes)}
}

func (n *network) join(from, to, room int) {
	n.room[arc{from, to}] = room
	n.next[from] = append(n.next[from], to)
	n.next[to] = append(n.next[to], from)
}

// flow returns what flows along an arc.
func (n *network) flow(a arc) int {
	return n.room[a.back()]
}

// fill makes the flow as great as possible, and returns the nodes that more could still reach from the source: the arcs that lead out of them are full, and no flow can be greater than these allow.
func (n *network) fill(limit int) map[int]int {
	for {
		found := n.search()
		if _, ok := found[sink]; !ok {
			return found
		}
		n.push(source, limit, found)
	}
}

// search returns the nodes that more could reach from the source, each with its distance.
func (n *network) search() map[int]int {
	found := map[int]int{source: 0}
	queue := []int{source}
	for at := 0; at < len(queue); at++ {
		from := queue[at]
		for _, to := range n.next[from] {
			if _, ok := found[to]; !ok && n.room[arc{from, to}] > 0 {
				found[to] = found[from] + 1
				queue = append(queue, to)
			}
		}
	}
	return found
}

// push sends up to limit from a node to the sink by shortest ways, and returns how much it sent. A node that can send no more is deleted from what was found, so that nothing is tried through it again.
func (n *network) push(from, limit int, found map[int]int) int {
	if from == sink {
		return limit
	}
	sent := 0
	for _, to := range n.next[from] {
		forth := arc{from, to}
		distance, ok := found[to]
		if !ok || distance != found[from]+1 || n.room[forth] == 0 {
			continue
		}
		amount := n.push(to, min(limit-sent, n.room[forth]), found)
		n.room[forth] -= amount
		n.room[forth.back()] += amount
		sent += amount
		if sent == limit {
			return sent
		}
	}
	delete(found, from)
	return sent
}
