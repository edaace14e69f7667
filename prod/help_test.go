package prod_test

import (
	"math"
	"slices"
	"testing"

	"lodesman/api"
	"lodesman/aut"
	"lodesman/member"
)

// kinds are all kinds of acceptance.
var kinds = []int{api.Buchi, api.General, api.CoBuchi, api.Rabin, api.Streett, api.Parity}

// generator makes things that look random but are the same in every run.
type generator uint32

func (g *generator) below(n int) int {
	*g = *g*1664525 + 1013904223
	return int(*g>>8) % n
}

// marksOf makes a number of marks that the kind permits, at most most.
func (g *generator) marksOf(kind, most int) int {
	switch kind {
	case api.Buchi, api.CoBuchi:
		return 1
	case api.Rabin, api.Streett:
		return 2 * g.below(most/2+1)
	}
	return g.below(most + 1)
}

// automaton makes an automaton with any edges.
func (g *generator) automaton(kind, props, states, edges, marks int) api.Automaton {
	a := api.Automaton{Props: props, States: states, Kind: kind, Marks: g.marksOf(kind, marks)}
	for s := range states {
		if g.below(2) == 0 {
			a.Start = append(a.Start, s)
		}
	}
	for range edges {
		care := g.below(1 << props)
		a.Edges = append(a.Edges, api.Edge{From: g.below(states), To: g.below(states), Care: care, Bits: g.below(1<<props) & care, Marks: g.below(1 << a.Marks)})
	}
	return a
}

// single makes a deterministic automaton. One of gaps edges is missing (none if gaps is 0).
func (g *generator) single(kind, props, states, marks, gaps int) api.Automaton {
	a := api.Automaton{Props: props, States: states, Start: []int{g.below(states)}, Kind: kind, Marks: g.marksOf(kind, marks)}
	for s := range states {
		care := g.below(1 << props)
		for l := range 1 << props {
			if l&^care == 0 && (gaps == 0 || g.below(gaps) > 0) {
				a.Edges = append(a.Edges, api.Edge{From: s, To: g.below(states), Care: care, Bits: l, Marks: g.below(1 << a.Marks)})
			}
		}
	}
	return a
}

// words are several words over props propositions.
func (g *generator) words(props, count int) []api.Word {
	list := make([]api.Word, count)
	for i := range list {
		for range g.below(4) {
			list[i].Stem = append(list[i].Stem, g.below(1<<props))
		}
		for range 1 + g.below(6) {
			list[i].Loop = append(list[i].Loop, g.below(1<<props))
		}
	}
	return list
}

// has is whether w is a word of a.
func has(t *testing.T, a api.Automaton, w api.Word) bool {
	t.Helper()
	is, e := member.Has(a, w)
	if e != api.OK {
		t.Fatalf("Has(%v, %v): %d", a, w, e)
	}
	return is
}

func deterministic(a api.Automaton) bool {
	is, _ := aut.Deterministic(a)
	return is
}

func complete(a api.Automaton) bool {
	is, _ := aut.Complete(a)
	return is
}

// identical reports whether a and b have the same numbers and lists.
func identical(a, b api.Automaton) bool {
	same := a.Props == b.Props && a.States == b.States && a.Kind == b.Kind && a.Marks == b.Marks
	return same && slices.Equal(a.Start, b.Start) && slices.Equal(a.Edges, b.Edges)
}

// zero reports whether a is the zero value, as a result beside an error has to be.
func zero(a api.Automaton) bool { return identical(a, api.Automaton{}) }

// copied is a with lists of its own.
func copied(a api.Automaton) api.Automaton {
	a.Start, a.Edges = slices.Clone(a.Start), slices.Clone(a.Edges)
	return a
}

// again is the automaton of example 1 of layer 5: proposition 0 is true infinitely often.
func again() api.Automaton {
	return api.Automaton{Props: 1, States: 1, Start: []int{0}, Marks: 1, Edges: []api.Edge{{Care: 1, Bits: 1, Marks: 1}, {Care: 1}}}
}

// changed is again with one change.
func changed(change func(a *api.Automaton)) api.Automaton {
	a := again()
	change(&a)
	return a
}

// loops is an automaton of Kind General with that many states, all of which are Start states, and edges from each state to itself.
func loops(props, states, edges, marks int, edge api.Edge) api.Automaton {
	a := api.Automaton{Props: props, States: states, Kind: api.General, Marks: marks}
	for s := range states {
		a.Start = append(a.Start, s)
	}
	for i := range edges {
		edge.From, edge.To = i%states, i%states
		a.Edges = append(a.Edges, edge)
	}
	return a
}

// ring is an automaton whose states, one after the other, have an edge for all letters.
func ring(kind, marks, props, states int) api.Automaton {
	a := api.Automaton{Props: props, States: states, Start: []int{0}, Kind: kind, Marks: marks}
	for s := range states {
		a.Edges = append(a.Edges, api.Edge{From: s, To: (s + 1) % states})
	}
	a.Edges[states-1].Marks = 1<<marks - 1
	return a
}

// invalid are automata that no function accepts.
func invalid() []api.Automaton {
	return []api.Automaton{
		{}, {Props: -1, Marks: 1}, {Props: 7, Marks: 1}, {States: -1, Marks: 1}, {States: 3001, Marks: 1}, {States: math.MaxInt, Marks: 1},
		{Kind: -1}, {Kind: 6}, {Kind: math.MinInt}, {Kind: api.Rabin, Marks: 3}, {Kind: api.Parity, Marks: 41}, {Kind: api.General, Marks: -1}, {Kind: api.CoBuchi, Marks: 2},
		changed(func(a *api.Automaton) { a.Start = []int{0, 0} }),
		changed(func(a *api.Automaton) { a.Start = []int{1} }),
		changed(func(a *api.Automaton) { a.Start = []int{-1} }),
		changed(func(a *api.Automaton) { a.States, a.Start = 2, []int{1, 0} }),
		changed(func(a *api.Automaton) { a.Edges = make([]api.Edge, api.MaxEdges+1) }),
		changed(func(a *api.Automaton) { a.Edges[0].From = 1 }),
		changed(func(a *api.Automaton) { a.Edges[0].To = -1 }),
		changed(func(a *api.Automaton) { a.Edges[0].Care = 2 }),
		changed(func(a *api.Automaton) { a.Edges[0].Care = 0 }),
		changed(func(a *api.Automaton) { a.Edges[0].Marks = 2 }),
		changed(func(a *api.Automaton) { a.Edges[0].Marks = math.MinInt }),
	}
}
