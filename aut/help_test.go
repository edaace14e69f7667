package aut_test

import (
	"math"
	"slices"

	"lodesman/api"
	"lodesman/aut"
)

// kinds are all kinds of acceptance.
var kinds = []int{api.Buchi, api.General, api.CoBuchi, api.Rabin, api.Streett, api.Parity}

// numbers are ints of all sizes.
func numbers() []int {
	return []int{math.MinInt, math.MinInt + 1, -1 << 32, -64, -2, -1, 0, 1, 2, 3, 5, 6, 7, 39, 40, 41, 42, 63, 64, 65, 1 << 31, 1 << 40, 1 << 62, math.MaxInt - 1, math.MaxInt}
}

// generator makes things that look random but are the same in every run.
type generator uint32

func (g *generator) below(n int) int {
	*g = *g*1664525 + 1013904223
	return int(*g>>8) % n
}

// marksOf makes a number of marks that the kind permits, at most 4.
func (g *generator) marksOf(kind int) int {
	switch kind {
	case api.Buchi, api.CoBuchi:
		return 1
	case api.Rabin, api.Streett:
		return 2 * g.below(3)
	}
	return g.below(5)
}

// automaton makes an automaton with any edges.
func (g *generator) automaton(props, states, edges int) api.Automaton {
	a := g.empty(props, states)
	for s := range states {
		if g.below(2) == 0 {
			a.Start = append(a.Start, s)
		}
	}
	for range edges {
		care := g.below(1 << props)
		a.Edges = append(a.Edges, api.Edge{From: g.below(states), To: g.below(states), Care: care, Bits: g.below(1<<props) & care, Marks: g.below(1 << a.Marks)})
	}
	return a
}

// empty makes an automaton without Start states and edges.
func (g *generator) empty(props, states int) api.Automaton {
	kind := kinds[g.below(len(kinds))]
	return api.Automaton{Props: props, States: states, Kind: kind, Marks: g.marksOf(kind)}
}

// single makes an automaton with one Start state at most, and of the edges that automaton makes only those that have no letter in common with an earlier one of their state.
func (g *generator) single(props, states, edges int) api.Automaton {
	a := g.automaton(props, states, edges)
	a.Start = a.Start[:min(1, len(a.Start))]
	all := a.Edges
	a.Edges = nil
	for _, e := range all {
		if !slices.ContainsFunc(a.Edges, func(f api.Edge) bool { return e.From == f.From && common(e, f, props) }) {
			a.Edges = append(a.Edges, e)
		}
	}
	return a
}

// list makes n letters.
func (g *generator) list(n, props int) []int {
	list := make([]int, n)
	for i := range list {
		list[i] = g.below(1 << props)
	}
	return list
}

// common reports whether two edges have a letter in common.
func common(e, f api.Edge, props int) bool {
	for l := range 1 << props {
		if l&e.Care == e.Bits && l&f.Care == f.Bits {
			return true
		}
	}
	return false
}

// deterministic and complete, by their definitions.
func deterministic(a api.Automaton) bool {
	for i, e := range a.Edges {
		for _, f := range a.Edges[:i] {
			if e.From == f.From && common(e, f, a.Props) {
				return false
			}
		}
	}
	return len(a.Start) == 1
}

func complete(a api.Automaton) bool {
	for s := range a.States {
		for l := range 1 << a.Props {
			if !slices.ContainsFunc(a.Edges, func(e api.Edge) bool { return e.From == s && l&e.Care == e.Bits }) {
				return false
			}
		}
	}
	return true
}

// accepts is the table of the document.
func accepts(kind, marks, inf int) bool {
	met := func(m int) bool { return inf>>m&1 == 1 }
	pairs := 0 // of which the second mark is met and the first one is not
	greatest := -1
	all := true
	for m := range marks {
		if m%2 == 1 && met(m) && !met(m-1) {
			pairs++
		}
		if met(m) {
			greatest = m
		}
		all = all && met(m)
	}
	return []bool{met(0), all, !met(0), pairs > 0, pairs == 0, greatest >= 0 && greatest%2 == 0}[kind]
}

// again is the automaton of example 1: proposition 0 is true infinitely often.
func again() api.Automaton {
	return api.Automaton{Props: 1, States: 1, Start: []int{0}, Marks: 1, Edges: []api.Edge{{Care: 1, Bits: 1, Marks: 1}, {Care: 1}}}
}

// changed is again with one change.
func changed(change func(a *api.Automaton)) api.Automaton {
	a := again()
	change(&a)
	return a
}

// ring is a deterministic automaton whose states, one after the other, have an edge for each of the first few letters.
func ring(props, states, letters int) api.Automaton {
	a := api.Automaton{Props: props, States: states, Start: []int{0}, Marks: 1}
	for s := range states {
		for l := range letters {
			a.Edges = append(a.Edges, api.Edge{From: s, To: (s + 1) % states, Care: 1<<props - 1, Bits: l})
		}
	}
	return a
}

// invalid are automata that no function accepts.
func invalid() []api.Automaton {
	list := []api.Automaton{
		{Kind: api.Buchi}, {Kind: api.CoBuchi}, {Kind: api.Rabin, Marks: 1}, {Kind: api.Streett, Marks: 39},
		changed(func(a *api.Automaton) { a.Start = []int{0, 0} }),
		changed(func(a *api.Automaton) { a.Start = []int{1} }),
		changed(func(a *api.Automaton) { a.Start = []int{-1} }),
		changed(func(a *api.Automaton) { a.Start = []int{-1, 0} }),
		changed(func(a *api.Automaton) { a.States, a.Start = 2, []int{1, 0} }),
		changed(func(a *api.Automaton) { a.Start = make([]int, 100000) }),
		changed(func(a *api.Automaton) { a.States = 0 }),
		changed(func(a *api.Automaton) { a.Props = 0 }),
		changed(func(a *api.Automaton) { a.Edges = make([]api.Edge, api.MaxEdges+1) }),
		{States: 0, Start: []int{0}, Marks: 1},
		{States: 0, Edges: make([]api.Edge, 1), Marks: 1},
	}
	for _, n := range numbers() {
		if n < 0 || n > api.MaxProps {
			list = append(list, changed(func(a *api.Automaton) { a.Props = n }))
		}
		if n < 0 {
			list = append(list, changed(func(a *api.Automaton) { a.States = n }))
		}
		if n < 0 || n > 5 {
			list = append(list, changed(func(a *api.Automaton) { a.Kind = n }))
		}
		list = append(list, wrongMarks(n)...)
		list = append(list, wrongEdges(n)...)
	}
	return append(list, changed(func(a *api.Automaton) { a.States = api.MaxStates + 1 }), changed(func(a *api.Automaton) { a.States = math.MaxInt }))
}

// wrongMarks are automata with n marks, which their kinds do not permit.
func wrongMarks(n int) []api.Automaton {
	var list []api.Automaton
	for _, kind := range kinds {
		one := (kind == api.Buchi || kind == api.CoBuchi) && n != 1
		even := (kind == api.Rabin || kind == api.Streett) && n%2 != 0
		if one || even || n < 0 || n > api.MaxMarks {
			list = append(list, changed(func(a *api.Automaton) { a.Kind, a.Marks, a.Edges = kind, n, nil }))
		}
	}
	return list
}

// wrongEdges are automata with an edge one of whose numbers is n, where that is not permitted.
func wrongEdges(n int) []api.Automaton {
	var list []api.Automaton
	add := func(e api.Edge) {
		list = append(list, changed(func(a *api.Automaton) { a.Edges[1] = e }))
	}
	if n != 0 {
		add(api.Edge{From: n})
		add(api.Edge{To: n})
		add(api.Edge{Bits: n})
	}
	if n < 0 || n > 1 {
		add(api.Edge{Care: n})
		add(api.Edge{Care: 1, Bits: n})
		add(api.Edge{Marks: n})
	}
	return list
}

// copied is a with lists of its own.
func copied(a api.Automaton) api.Automaton {
	a.Start, a.Edges = slices.Clone(a.Start), slices.Clone(a.Edges)
	return a
}

// identical reports whether a and b have the same numbers and lists.
func identical(a, b api.Automaton) bool {
	same := a.Props == b.Props && a.States == b.States && a.Kind == b.Kind && a.Marks == b.Marks
	return same && slices.Equal(a.Start, b.Start) && slices.Equal(a.Edges, b.Edges)
}

// accepted reports whether a deterministic automaton has the word, by Walk.
func accepted(a api.Automaton, w api.Word) bool {
	inf, dead, e := aut.Walk(a, w)
	return e == api.OK && !dead && accepts(a.Kind, a.Marks, inf)
}
