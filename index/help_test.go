package index_test

import (
	"fmt"
	"math"
	"slices"
	"testing"

	"lodesman/api"
	"lodesman/aut"
	"lodesman/member"
)

// kinds are all kinds of acceptance.
var kinds = []int{api.Buchi, api.General, api.CoBuchi, api.Rabin, api.Streett, api.Parity}

// generator makes things that look random but are the same in every run.
type generator uint32

func (g *generator) below(n int) int {
	*g = *g*1664525 + 1013904223
	return int(*g>>8) % n
}

// marksOf makes a number of marks that the kind permits, at most most.
func (g *generator) marksOf(kind, most int) int {
	switch kind {
	case api.Buchi, api.CoBuchi:
		return 1
	case api.Rabin, api.Streett:
		return 2 * g.below(most/2+1)
	}
	return g.below(most + 1)
}

// marks makes a set of marks, few of them or many.
func (g *generator) marks(count, density int) int {
	set := 0
	for m := range count {
		if g.below(10) < density {
			set |= 1 << m
		}
	}
	return set
}

// automaton makes an automaton with any edges.
func (g *generator) automaton(kind, props, states, edges, marks int) api.Automaton {
	a := api.Automaton{Props: props, States: states, Kind: kind, Marks: marks}
	for s := range states {
		if g.below(2) == 0 {
			a.Start = append(a.Start, s)
		}
	}
	density := 1 + g.below(6)
	for range edges {
		care := g.below(1 << props)
		a.Edges = append(a.Edges, api.Edge{From: g.below(states), To: g.below(states), Care: care, Bits: g.below(1<<props) & care, Marks: g.marks(a.Marks, density)})
	}
	return a
}

// single makes a deterministic automaton. One of gaps edges is missing (none if gaps is 0).
func (g *generator) single(kind, props, states, marks, gaps int) api.Automaton {
	a := api.Automaton{Props: props, States: states, Start: []int{g.below(states)}, Kind: kind, Marks: marks}
	density := 1 + g.below(6)
	for s := range states {
		care := g.below(1<<props) | g.below(1<<props)
		for l := range 1 << props {
			if l&^care == 0 && (gaps == 0 || g.below(gaps) > 0) {
				a.Edges = append(a.Edges, api.Edge{From: s, To: g.below(states), Care: care, Bits: l, Marks: g.marks(marks, density)})
			}
		}
	}
	return a
}

// words are several words over props propositions.
func (g *generator) words(props, count int) []api.Word {
	list := make([]api.Word, count)
	for i := range list {
		for range g.below(4) {
			list[i].Stem = append(list[i].Stem, g.below(1<<props))
		}
		for range 1 + g.below(6) {
			list[i].Loop = append(list[i].Loop, g.below(1<<props))
		}
	}
	return list
}

// brief is the beginning of what an automaton is printed as.
func brief(a api.Automaton) string { return fmt.Sprintf("%.3000s", fmt.Sprint(a)) }

// has is whether w is a word of a.
func has(t *testing.T, a api.Automaton, w api.Word) bool {
	t.Helper()
	is, e := member.Has(a, w)
	if e != api.OK {
		t.Fatalf("Has(%s, %v): %d", brief(a), w, e)
	}
	return is
}

// within is whether all words of a are words of b.
func within(t *testing.T, a, b api.Automaton) bool {
	t.Helper()
	is, e := member.Within(a, b)
	if e != api.OK {
		t.Fatalf("Within(%s, %s): %d", brief(a), brief(b), e)
	}
	return is
}

// raised is a of Kind Parity with all marks greater by 1, and mark 0 on all edges: it accepts the opposite runs.
func raised(a api.Automaton) api.Automaton {
	a = copied(a)
	a.Marks++
	for i := range a.Edges {
		a.Edges[i].Marks = a.Edges[i].Marks<<1 | 1
	}
	return a
}

// expectShape checks that b is a valid, deterministic and complete automaton of Kind Parity over props propositions.
func expectShape(t *testing.T, b api.Automaton, e api.Errno, props int) {
	t.Helper()
	if e != api.OK || !aut.Valid(b) || !deterministic(b) || !complete(b) || b.Kind != api.Parity || b.Props != props {
		t.Fatalf("%s, %d", brief(b), e)
	}
}

func deterministic(a api.Automaton) bool {
	is, _ := aut.Deterministic(a)
	return is
}

func complete(a api.Automaton) bool {
	is, _ := aut.Complete(a)
	return is
}

// identical reports whether a and b have the same numbers and lists.
func identical(a, b api.Automaton) bool {
	same := a.Props == b.Props && a.States == b.States && a.Kind == b.Kind && a.Marks == b.Marks
	return same && slices.Equal(a.Start, b.Start) && slices.Equal(a.Edges, b.Edges)
}

// zero reports whether a is the zero value, as a result beside an error has to be.
func zero(a api.Automaton) bool { return identical(a, api.Automaton{}) }

// copied is a with lists of its own.
func copied(a api.Automaton) api.Automaton {
	a.Start, a.Edges = slices.Clone(a.Start), slices.Clone(a.Edges)
	return a
}

// unmarked is a without marks.
func unmarked(a api.Automaton) api.Automaton {
	a = copied(a)
	a.Marks = 0
	for i := range a.Edges {
		a.Edges[i].Marks = 0
	}
	return a
}

// again is the automaton of example 1 of layer 5: proposition 0 is true infinitely often.
func again() api.Automaton {
	return api.Automaton{Props: 1, States: 1, Start: []int{0}, Marks: 1, Edges: []api.Edge{{Care: 1, Bits: 1, Marks: 1}, {Care: 1}}}
}

// changed is again with one change.
func changed(change func(a *api.Automaton)) api.Automaton {
	a := again()
	change(&a)
	return a
}

// loops are the sets of edges that a run can take infinitely often, as bits; the Start states do not matter.
func loops(a api.Automaton) []int {
	var sets []int
	for set := 1; set < 1<<len(a.Edges); set++ {
		if connected(a, set) {
			sets = append(sets, set)
		}
	}
	return sets
}

// connected is whether each edge of a set is reachable from each other one, by edges of the set.
func connected(a api.Automaton, set int) bool {
	states := 0
	to := make([]int, a.States) // for each state those behind it, as bits
	for i, e := range a.Edges {
		if set>>i&1 == 1 {
			to[e.From] |= 1 << e.To
			states |= 1<<e.From | 1<<e.To
		}
	}
	for k := range to {
		for s := range to {
			if to[s]>>k&1 == 1 {
				to[s] |= to[k]
			}
		}
	}
	for s := range to {
		if states>>s&1 == 1 && to[s] != states {
			return false
		}
	}
	return true
}

// accepts is whether a run is accepted that takes a set of edges infinitely often.
func accepts(t *testing.T, a api.Automaton, set int) bool {
	t.Helper()
	inf := 0
	for i, e := range a.Edges {
		if set>>i&1 == 1 {
			inf |= e.Marks
		}
	}
	is, e := aut.Accepts(a.Kind, a.Marks, inf)
	if e != api.OK {
		t.Fatalf("Accepts(%d, %d, %d): %d", a.Kind, a.Marks, inf, e)
	}
	return is
}

// invalid are automata that no function accepts.
func invalid() []api.Automaton {
	return []api.Automaton{
		{}, {Props: -1, Marks: 1}, {Props: 7, Marks: 1}, {States: -1, Marks: 1}, {States: 3001, Marks: 1}, {States: math.MaxInt, Marks: 1},
		{Kind: -1}, {Kind: 6}, {Kind: math.MinInt}, {Kind: api.Rabin, Marks: 3}, {Kind: api.Parity, Marks: 41}, {Kind: api.General, Marks: -1}, {Kind: api.CoBuchi, Marks: 2},
		{Props: -1, Kind: api.Parity}, {States: 3001, Kind: api.Parity}, {Kind: api.Parity, Marks: math.MaxInt},
		changed(func(a *api.Automaton) { a.Start = []int{0, 0} }),
		changed(func(a *api.Automaton) { a.Start = []int{1} }),
		changed(func(a *api.Automaton) { a.Start = []int{-1} }),
		changed(func(a *api.Automaton) { a.States, a.Start = 2, []int{1, 0} }),
		changed(func(a *api.Automaton) { a.Edges = make([]api.Edge, api.MaxEdges+1) }),
		changed(func(a *api.Automaton) { a.Edges[0].From = 1 }),
		changed(func(a *api.Automaton) { a.Edges[0].To = -1 }),
		changed(func(a *api.Automaton) { a.Edges[0].Care = 2 }),
		changed(func(a *api.Automaton) { a.Edges[0].Care = 0 }),
		changed(func(a *api.Automaton) { a.Edges[0].Marks = 2 }),
		changed(func(a *api.Automaton) { a.Kind, a.Edges[0].Marks = api.Parity, 2 }),
		changed(func(a *api.Automaton) { a.Edges[0].Marks = math.MinInt }),
	}
}
