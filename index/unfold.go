package index

import (
	"lodesman/api"
	"lodesman/graph"
)

// place is a state of an automaton, and what has to be known of a run that has come there.
type place struct {
	state  int
	memory memory
}

// unfolding is an automaton whose states are the places that runs of a deterministic and complete one come to.
type unfolding struct {
	api.Automaton
	rule    acceptance
	start   memory
	out     [][]api.Edge // for each state its edges
	part    []int        // for each state its strongly connected part
	useful  []int        // for each part the marks that have to be looked at
	numbers map[place]int
	places  []place
	edges   []api.Edge
	ranks   []int // for each edge the mark that it is to have, or none
}

// newUnfolding returns the unfolding of a with its Start state alone.
func newUnfolding(a api.Automaton) *unfolding {
	u := &unfolding{Automaton: a, rule: acceptanceOf(a), out: make([][]api.Edge, a.States), numbers: map[place]int{}}
	next := make([][]int, a.States)
	for _, e := range a.Edges {
		u.out[e.From] = append(u.out[e.From], e)
		next[e.From] = append(next[e.From], e.To)
	}
	u.part = graph.Parts(next)
	u.useful = make([]int, a.States)
	for _, e := range a.Edges {
		if u.isInner(e) {
			u.useful[u.part[e.From]] |= e.Marks
		}
	}
	for i, marks := range u.useful {
		u.useful[i] = useful(u.rule, marks)
	}
	u.start = first(u.rule)
	u.number(place{a.Start[0], u.start})
	return u
}

// isInner reports whether a run can take an edge infinitely often.
func (u *unfolding) isInner(e api.Edge) bool { return u.part[e.From] == u.part[e.To] }

// number returns the number of a place.
func (u *unfolding) number(p place) int {
	if _, ok := u.numbers[p]; !ok {
		u.numbers[p] = len(u.places)
		u.places = append(u.places, p)
	}
	return u.numbers[p]
}

// explored adds all places that are reachable, with their edges, and reports whether these are few enough.
func (u *unfolding) explored() bool {
	for at := 0; at < len(u.places); at++ {
		for _, e := range u.out[u.places[at].state] {
			to, rank := u.behind(u.places[at], e)
			u.edges = append(u.edges, api.Edge{From: at, To: u.number(to), Care: e.Care, Bits: e.Bits})
			u.ranks = append(u.ranks, rank)
		}
		if len(u.places) > api.MaxStates || len(u.edges) > api.MaxEdges {
			return false
		}
	}
	return true
}

// behind returns the place behind an edge, and the mark of that edge. What has been met in one part does not matter in others.
func (u *unfolding) behind(p place, e api.Edge) (place, int) {
	if !u.isInner(e) {
		return place{e.To, u.start}, none
	}
	m, rank := meet(u.rule, p.memory, e.Marks&u.useful[u.part[e.From]])
	return place{e.To, m}, rank
}

// automaton returns the unfolding as an automaton without marks.
func (u *unfolding) automaton() api.Automaton {
	return api.Automaton{Props: u.Props, States: len(u.places), Start: []int{0}, Edges: u.edges}
}

// marked returns a as an automaton of Kind Parity that accepts the same runs as if its edges had these marks (or none), with as few marks as possible.
func marked(a api.Automaton, ranks []int) (api.Automaton, api.Errno) {
	next, mark := make([][]int, a.States), make([][]int, a.States)
	for i, e := range a.Edges {
		next[e.From] = append(next[e.From], e.To)
		mark[e.From] = append(mark[e.From], ranks[i])
	}
	paint, marks := graph.Paint(next, mark)
	if marks > api.MaxMarks {
		return api.Automaton{}, api.ErrFull
	}
	a.Kind, a.Marks = api.Parity, marks
	for i, e := range a.Edges {
		a.Edges[i].Marks = 0
		if rank := paint[e.From][0]; rank != none {
			a.Edges[i].Marks = 1 << rank
		}
		paint[e.From] = paint[e.From][1:]
	}
	return a, api.OK
}
