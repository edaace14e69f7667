package member

import "slices"

// tree is what was reached in a graph, the nearest nodes first.
type tree struct {
	nodes []int
	came  []place // for each node that was reached the arc that led there; the node of it is -1 where the tree begins
}

// spread goes from the nodes of from along arcs, as arcs returns them, until one of them is done; it returns that arc's place.
func (s *search) spread(from []int, arcs func(node, k int) (arc, bool), done func(arc) bool) (tree, place) {
	t := tree{came: make([]place, s.size())}
	met := make([]bool, s.size())
	meet := func(node int, by place) {
		if !met[node] {
			met[node] = true
			t.came[node] = by
			t.nodes = append(t.nodes, node)
		}
	}
	for _, v := range from {
		meet(v, place{node: -1})
	}
	for at := 0; at < len(t.nodes); at++ {
		v := t.nodes[at]
		for k := range s.degree(v) {
			a, ok := arcs(v, k)
			switch {
			case !ok:
			case done(a):
				return t, place{node: v, k: k}
			default:
				meet(a.to, place{node: v, k: k})
			}
		}
	}
	return t, place{node: -1}
}

// reach returns all that is reachable from the starts of the graph.
func (s *search) reach() tree {
	t, _ := s.spread(s.starts(), s.arc, func(arc) bool { return false })
	return t
}

// path returns the arcs that lead to a node of the tree.
func (t tree) path(node int) []place {
	var list []place
	for by := t.came[node]; by.node >= 0; by = t.came[by.node] {
		list = append(list, by)
	}
	slices.Reverse(list)
	return list
}

// lasso returns a short path from a start to the region, and an accepted loop there.
func (s *search) lasso(t tree, r region) (stem, loop []place) {
	s.claim(r.nodes)
	for _, v := range t.nodes {
		if s.part[v] == s.parts {
			return t.path(v), s.loop(v, r)
		}
	}
	return nil, nil
}

// loop returns a loop from entry that has the needed marks of the region, each by the shortest way from the one before it.
func (s *search) loop(entry int, r region) []place {
	var loop []place
	at, needed := entry, r.needed
	for !needed.empty() {
		loop = append(loop, s.leg(at, r, func(a arc) bool { return a.marks.meets(needed) })...)
		last := loop[len(loop)-1]
		a, _ := s.arc(last.node, last.k)
		at, needed = a.to, needed.without(a.marks)
	}
	if at == entry && len(loop) > 0 {
		return loop
	}
	return append(loop, s.leg(at, r, func(a arc) bool { return a.to == entry })...)
}

// leg returns a shortest path within the region whose last arc is done. There is one.
func (s *search) leg(from int, r region, done func(arc) bool) []place {
	inside := func(node, k int) (arc, bool) { return s.inner(node, k, r.dropped) }
	t, last := s.spread([]int{from}, inside, done)
	return append(t.path(last.node), last)
}
