package det

import "lodesman/api"

// The labels of the arrows of a grower tell where a state goes.
const (
	stays  = iota // to the node in which it is
	enters        // to the fresh node below it: the edge has the mark
	leaves        // to the root: no run comes back to where it was
)

// grower computes the trees that grow from an automaton of Kind Buchi.
type grower struct {
	*table
	start    string
	stronger [][]int // for each state those that can do all that it can
	host     []int   // for each state the extended node that hosts it in the tree that is being computed, or none
}

func newGrower(a api.Automaton) *grower {
	part := partsOf(a, func(api.Edge) bool { return true })
	a = clarified(a, part)
	var labels []int
	for _, e := range a.Edges {
		label := stays
		if part[e.From] != part[e.To] {
			label = leaves
		} else if e.Marks != 0 {
			label = enters
		}
		labels = append(labels, label)
	}
	return &grower{table: newTable(a, labels), start: newTree(a.Start).text(), stronger: strongerOf(a, part), host: make([]int, a.States)}
}

// grow returns the step from a tree. The mark is the greater, the older the node of the event is, and even if the event is grand: then the greatest mark of a run that is met infinitely often is even if and only if some node is there from some position on, and something grand happens to it infinitely often.
func (g *grower) grow(text string) step {
	t := treeOf(text)
	ranks := t.ranks()
	return func(group int) (string, int, bool) {
		next, x := t.grown(g.moved(t, ranks, group))
		mark := none
		if x.node != none {
			mark = 2 * (len(g.out) - x.node)
			if !x.grand {
				mark++
			}
		}
		return next.text(), mark, true
	}
}

// moved returns the states behind those of a tree with the extended nodes that host them.
func (g *grower) moved(t *tree, ranks []int, group int) []spot {
	for s := range g.host {
		g.host[s] = none
	}
	for _, x := range t.spots {
		for _, y := range g.out[x.state][group] {
			node := x.node
			switch y.label {
			case enters:
				node += len(t.above)
			case leaves:
				node = 0
			}
			if h := g.host[y.to]; h == none || ranks[node] < ranks[h] {
				g.host[y.to] = node
			}
		}
	}
	var spots []spot
	for s, node := range g.host {
		if node != none && !g.isNeedless(s, ranks) {
			spots = append(spots, spot{state: s, node: node})
		}
	}
	return spots
}

// isNeedless reports whether a state need not be followed beside a stronger one of which as much is told.
func (g *grower) isNeedless(s int, ranks []int) bool {
	for _, t := range g.stronger[s] {
		if h := g.host[t]; h != none && ranks[h] <= ranks[g.host[s]] {
			return true
		}
	}
	return false
}
