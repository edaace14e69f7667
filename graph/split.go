// Package graph divides graphs into strongly connected parts, finds as few marks for their arcs as possible, and provides queues of their nodes, for the layers that handle automata and games.
package graph

// None stands for no node, and for the mark of an arc that has none.
const None = -1

// Splitter divides graphs into strongly connected parts, as Tarjan does. It keeps a stack of its own: a path may be longer than calls can be nested.
type Splitter struct {
	degree func(v int) int    // how many arcs a node has
	next   func(v, k int) int // the node to which arc k leads, or None if that arc does not count
	order  []int              // for each node when it was met; 0 if it has not been met yet, None if it is not in the graph
	low    []int              // for each node the earliest node of its part that is known to be reachable from it
	met    int                // how many nodes have been met
	path   []place            // from the first node of the search to the current one
	open   []int              // the nodes that have been met and whose part is not complete
	parts  [][]int
}

// place is a node, and the arc of it that is to be looked at next.
type place struct{ node, arc int }

// NewSplitter returns a splitter of graphs whose nodes are less than count.
func NewSplitter(count int) *Splitter {
	s := &Splitter{order: make([]int, count), low: make([]int, count)}
	for v := range s.order {
		s.order[v] = None
	}
	return s
}

// Split returns the parts of the graph with these nodes. A part comes behind those that are reachable from it.
func (s *Splitter) Split(nodes []int, degree func(v int) int, next func(v, k int) int) [][]int {
	s.degree, s.next, s.met, s.parts = degree, next, 0, nil
	for _, v := range nodes {
		s.order[v] = 0
	}
	for _, v := range nodes {
		if s.order[v] == 0 {
			s.search(v)
		}
	}
	return s.parts
}

// search meets all nodes that are reachable from one.
func (s *Splitter) search(root int) {
	s.enter(root)
	for len(s.path) > 0 {
		top := &s.path[len(s.path)-1]
		if top.arc == s.degree(top.node) {
			s.leave()
			continue
		}
		v, w := top.node, s.next(top.node, top.arc)
		top.arc++
		switch {
		case w == None || s.order[w] == None:
		case s.order[w] == 0:
			s.enter(w)
		default:
			s.low[v] = min(s.low[v], s.order[w])
		}
	}
}

func (s *Splitter) enter(v int) {
	s.met++
	s.order[v], s.low[v] = s.met, s.met
	s.open = append(s.open, v)
	s.path = append(s.path, place{node: v})
}

// leave ends the search from the last node of the path. If no earlier node is reachable from it, its part is complete and leaves the graph.
func (s *Splitter) leave() {
	v := s.path[len(s.path)-1].node
	s.path = s.path[:len(s.path)-1]
	if len(s.path) > 0 {
		before := s.path[len(s.path)-1].node
		s.low[before] = min(s.low[before], s.low[v])
	}
	if s.low[v] < s.order[v] {
		return
	}
	from := len(s.open) - 1
	for s.open[from] != v {
		from--
	}
	part := append([]int(nil), s.open[from:]...)
	s.open = s.open[:from]
	for _, w := range part {
		s.order[w] = None
	}
	s.parts = append(s.parts, part)
}

// Numbers returns for each of count nodes the number of its part.
func Numbers(count int, parts [][]int) []int {
	part := make([]int, count)
	for k, list := range parts {
		for _, v := range list {
			part[v] = k
		}
	}
	return part
}

// UpTo returns the numbers below count.
func UpTo(count int) []int {
	list := make([]int, count)
	for i := range list {
		list[i] = i
	}
	return list
}

// Parts returns for each node of a graph the number of its part, given for each node those to which it has arcs (or None). No part is reachable from one with a smaller number.
func Parts(next [][]int) []int {
	degree := func(v int) int { return len(next[v]) }
	parts := NewSplitter(len(next)).Split(UpTo(len(next)), degree, func(v, k int) int { return next[v][k] })
	return Numbers(len(next), parts)
}
