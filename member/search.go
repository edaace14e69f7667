package member

import "iter"

// search looks for the parts of a graph in which a run can stay for ever and be accepted.
type search struct {
	graph
	part  []int // for each node the number of the part that it belongs to at the moment; 0 if it belongs to none
	parts int   // how many numbers of parts have been used
	order []int // for each node when a split met it first; 0 if it has not yet
	low   []int // for each node the earliest node of its part that is known to be reachable from it
}

// region is a strongly connected part of a graph, without the arcs that have a dropped mark; a loop that meets the needed marks is accepted.
type region struct {
	nodes           []int
	dropped, needed markSet
}

func newSearch(g graph) *search {
	return &search{graph: g, part: make([]int, g.size()), order: make([]int, g.size()), low: make([]int, g.size())}
}

// accepted yields, among these nodes, the regions with a loop that reaches one of the goals. A node may be in regions of several goals.
func (s *search) accepted(nodes []int, goals []goal) iter.Seq[region] {
	return func(yield func(region) bool) {
		var examine func(nodes []int, dropped, seen markSet, g goal) bool
		examine = func(nodes []int, dropped, seen markSet, g goal) bool {
			refused, ok := g.refused(seen)
			if !ok {
				return true
			}
			if refused.empty() {
				return yield(region{nodes: nodes, dropped: dropped, needed: g.needed(seen)})
			}
			dropped = dropped.with(refused)
			for _, inner := range s.split(nodes, dropped) {
				if seen, ok := s.seen(inner, dropped); ok && !examine(inner, dropped, seen, g) {
					return false
				}
			}
			return true
		}
		for _, whole := range s.split(nodes, markSet{}) {
			seen, ok := s.seen(whole, markSet{})
			for i := 0; ok && i < len(goals); i++ {
				if !examine(whole, markSet{}, seen, goals[i]) {
					return
				}
			}
		}
	}
}

// claim makes these nodes a part.
func (s *search) claim(nodes []int) {
	s.parts++
	for _, v := range nodes {
		s.part[v] = s.parts
	}
}

// inner returns arc k of a node if it stays in the node's part and has no dropped mark.
func (s *search) inner(node, k int, dropped markSet) (arc, bool) {
	a, ok := s.arc(node, k)
	return a, ok && !a.marks.meets(dropped) && s.part[a.to] == s.part[node]
}

// seen returns all marks of the arcs within a part, or false if there are no arcs.
func (s *search) seen(nodes []int, dropped markSet) (marks markSet, ok bool) {
	for _, v := range nodes {
		for k := range s.degree(v) {
			if a, is := s.inner(v, k, dropped); is {
				marks, ok = marks.with(a.marks), true
			}
		}
	}
	return marks, ok
}

// split divides nodes into strongly connected parts, as Tarjan does. It keeps a stack of its own: a path may be longer than calls can be nested.
func (s *search) split(nodes []int, dropped markSet) [][]int {
	s.claim(nodes)
	for _, v := range nodes {
		s.order[v] = 0
	}
	t := &division{search: s, dropped: dropped, closed: make([]int, 0, len(nodes))}
	for _, v := range nodes {
		if s.order[v] == 0 {
			t.visit(v)
		}
	}
	return t.found
}

// division is a split that is under way.
type division struct {
	*search
	dropped markSet
	count   int     // how many nodes have been met
	path    []place // from the first node of the visit to the current one
	open    []int   // the nodes that were met and whose part is not complete
	closed  []int   // the others, part by part
	found   [][]int // the parts, as ranges of closed: there may be very many of one node
}

// place is a node, and the arc of it that is to be looked at next.
type place struct{ node, k int }

// visit divides what is reachable from root.
func (t *division) visit(root int) {
	t.enter(root)
	for len(t.path) > 0 {
		top := &t.path[len(t.path)-1]
		if top.k == t.degree(top.node) {
			t.leave()
			continue
		}
		a, ok := t.inner(top.node, top.k, t.dropped)
		top.k++
		switch {
		case !ok:
		case t.order[a.to] == 0:
			t.enter(a.to)
		default:
			t.low[top.node] = min(t.low[top.node], t.order[a.to])
		}
	}
}

func (t *division) enter(node int) {
	t.count++
	t.order[node], t.low[node] = t.count, t.count
	t.open = append(t.open, node)
	t.path = append(t.path, place{node: node})
}

// leave ends the visit of the last node of the path; if no earlier node is reachable from it, its part is complete.
func (t *division) leave() {
	node := t.path[len(t.path)-1].node
	t.path = t.path[:len(t.path)-1]
	if len(t.path) > 0 {
		before := t.path[len(t.path)-1].node
		t.low[before] = min(t.low[before], t.low[node])
	}
	if t.low[node] != t.order[node] {
		return
	}
	from := len(t.open) - 1
	for t.open[from] != node {
		from--
	}
	begin := len(t.closed)
	t.closed = append(t.closed, t.open[from:]...)
	t.open = t.open[:from]
	part := t.closed[begin:]
	t.claim(part)
	t.found = append(t.found, part)
}
