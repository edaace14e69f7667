package det

// tree is a state that grows from an automaton of Kind Buchi: the states to which its runs lead, in nested sets. A node contains the states that it hosts and those of the nodes below it; the root contains all. Each run to a state of another node has met the mark since it came from the node above. The nodes are numbered by their age, the oldest first.
type tree struct {
	above []int  // for each node the one above it; none for the root
	spots []spot // in the order of their states
}

// spot is a state and the node that hosts it.
type spot struct{ state, node int }

// newTree returns the tree of which the root hosts these states. Without states there is no root.
func newTree(states []int) *tree {
	t := &tree{}
	if len(states) > 0 {
		t.above = []int{none}
	}
	for _, s := range states {
		t.spots = append(t.spots, spot{state: s})
	}
	return t
}

// text returns a string that identifies the tree.
func (t *tree) text() string {
	list := []int{len(t.above)}
	for _, up := range t.above {
		list = append(list, up+1)
	}
	for _, x := range t.spots {
		list = append(list, x.state, x.node)
	}
	return packed(list)
}

// treeOf returns the tree that a string identifies.
func treeOf(text string) *tree {
	list := unpacked(text)
	t := &tree{}
	end := 1 + list[0]
	for _, up := range list[1:end] {
		t.above = append(t.above, up-1)
	}
	for k := end; k < len(list); k += 2 {
		t.spots = append(t.spots, spot{state: list[k], node: list[k+1]})
	}
	return t
}

// extended returns, for each node and then for a fresh one below each node, the node above it.
func (t *tree) extended() []int {
	above := append([]int(nil), t.above...)
	for v := range t.above {
		above = append(above, v)
	}
	return above
}

// ranks returns the order of the extended nodes by what they tell of a run: of two nodes below the same one the older tells more, and each node tells more than the one above it.
func (t *tree) ranks() []int {
	above := t.extended()
	below := make([][]int, len(above))
	for v, up := range above {
		if up != none {
			below[up] = append(below[up], v)
		}
	}
	ranks, next := make([]int, len(above)), 0
	var visit func(v int)
	visit = func(v int) {
		for _, w := range below[v] {
			visit(w)
		}
		ranks[v] = next
		next++
	}
	if len(above) > 0 {
		visit(0)
	}
	return ranks
}

// event is what happens to the oldest node to which anything happens.
type event struct {
	node  int
	grand bool // all of its states have met the mark since it was there, or since this happened to it the last time; otherwise the node is gone
}

// grown returns the tree of these spots in extended nodes, and its event (of the node none if nothing happens). A node to which something grand happens takes the place of all nodes below it.
func (t *tree) grown(spots []spot) (*tree, event) {
	above, count := t.extended(), len(t.above)
	hosts, holds := make([]bool, len(above)), make([]bool, len(above))
	for _, x := range spots {
		hosts[x.node], holds[x.node] = true, true
	}
	for v := len(above) - 1; v > 0; v-- {
		holds[above[v]] = holds[above[v]] || holds[v]
	}
	next, first := &tree{}, event{node: none}
	number, dissolves := make([]int, len(above)), make([]bool, len(above))
	for v, up := range above {
		switch {
		case !holds[v]:
		case up != none && dissolves[up]:
			number[v], dissolves[v] = number[up], true
		default:
			number[v], dissolves[v] = next.add(up, number), !hosts[v]
		}
		if first.node == none && v < count && (!holds[v] || dissolves[v]) {
			first = event{node: v, grand: holds[v]}
		}
	}
	for _, x := range spots {
		next.spots = append(next.spots, spot{state: x.state, node: number[x.node]})
	}
	return next, first
}

// add adds a node below the one whose number was given to up, and returns its number.
func (t *tree) add(up int, number []int) int {
	if up != none {
		up = number[up]
	}
	t.above = append(t.above, up)
	return len(t.above) - 1
}
