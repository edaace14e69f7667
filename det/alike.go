package det

import (
	"slices"

	"lodesman/graph"
)

// mostPairs is how many steps are spent on pairs of states. Without these, the automata are larger.
const mostPairs = 1 << 25

// comparison tells which words are accepted from the states of a diagram, as an automaton of Kind Parity with all edges. The pair of the states s and t is the node s * size + t.
type comparison struct {
	*diagram
	size   int
	splits *graph.Splitter
	nodes  []int
	differ []bool // for each pair whether some word is accepted from the first state and not from the second one
}

// classes returns for each state the first one from which the same words are accepted, or false if that takes too many steps.
func (d *diagram) classes() ([]int, bool) {
	size, limit := len(d.next), 0
	for _, row := range d.mark {
		limit = max(limit, slices.Max(row)+1)
	}
	if size*size*len(d.next[0])*(1+limit/2)*(1+limit/2) > mostPairs {
		return nil, false
	}
	c := &comparison{diagram: d, size: size, splits: graph.NewSplitter(size * size), nodes: graph.UpTo(size * size), differ: make([]bool, size*size)}
	for even := 0; even < limit; even += 2 {
		for odd := none; odd < limit; odd += 2 {
			c.circle(even, odd)
		}
	}
	c.spread()
	class := graph.UpTo(size)
	for s := range class {
		for t := range s {
			if !c.differ[s*size+t] && !c.differ[t*size+s] {
				class[s] = class[t]
				break
			}
		}
	}
	return class, true
}

// behind returns the pair behind a group of letters, and the marks on the way.
func (c *comparison) behind(v, group int) (next, first, second int) {
	s, t := v/c.size, v%c.size
	return c.next[s][group]*c.size + c.next[t][group], c.mark[s][group], c.mark[t][group]
}

func (c *comparison) degree(int) int { return len(c.next[0]) }

// circle finds the pairs from which the same letters lead in circles such that the greatest marks are these.
func (c *comparison) circle(even, odd int) {
	parts := c.splits.Split(c.nodes, c.degree, func(v, group int) int {
		next, first, second := c.behind(v, group)
		if first > even || second > odd {
			return none
		}
		return next
	})
	number := graph.Numbers(len(c.nodes), parts)
	for _, part := range parts {
		hasEven, hasOdd := false, odd == none
		for _, v := range part {
			for g := range c.degree(v) {
				next, first, second := c.behind(v, g)
				if first <= even && second <= odd && number[next] == number[v] {
					hasEven, hasOdd = hasEven || first == even, hasOdd || second == odd
				}
			}
		}
		for _, v := range part {
			c.differ[v] = c.differ[v] || hasEven && hasOdd
		}
	}
}

// spread finds the pairs that lead to others that differ.
func (c *comparison) spread() {
	parts := c.splits.Split(c.nodes, c.degree, func(v, group int) int {
		next, _, _ := c.behind(v, group)
		return next
	})
	for _, part := range parts {
		differ := slices.ContainsFunc(part, c.leadsAway)
		for _, v := range part {
			c.differ[v] = differ
		}
	}
}

// leadsAway reports whether a pair, or one that is right behind it, is known to differ.
func (c *comparison) leadsAway(v int) bool {
	for g := range c.degree(v) {
		if next, _, _ := c.behind(v, g); c.differ[next] {
			return true
		}
	}
	return c.differ[v]
}

// redirect replaces the ends of edges by states from which the same words are accepted and from which fewer states are reachable. A run meets such an edge only finitely often, so that it is accepted if and only if it was. It returns false if nothing has changed.
func (d *diagram) redirect() bool {
	class, ok := d.classes()
	if !ok {
		return false
	}
	part := graph.Parts(d.next)
	last := slices.Clone(class) // for each class the first of its states in its last part
	for s, c := range class {
		if part[s] < part[last[c]] {
			last[c] = s
		}
	}
	changed := false
	end := func(s int) int {
		if t := last[class[s]]; part[t] != part[s] {
			changed = true
			return t
		}
		return s
	}
	d.start = end(d.start)
	for _, row := range d.next {
		for g, s := range row {
			row[g] = end(s)
		}
	}
	return changed
}
