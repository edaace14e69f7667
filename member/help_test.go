package member_test

import (
	"math"
	"slices"

	"lodesman/api"
	"lodesman/aut"
)

// kinds are all kinds of acceptance.
var kinds = []int{api.Buchi, api.General, api.CoBuchi, api.Rabin, api.Streett, api.Parity}

// generator makes things that look random but are the same in every run.
type generator uint32

func (g *generator) below(n int) int {
	*g = *g*1664525 + 1013904223
	return int(*g>>8) % n
}

// marksOf makes a number of marks that the kind permits, at most most.
func (g *generator) marksOf(kind, most int) int {
	switch kind {
	case api.Buchi, api.CoBuchi:
		return 1
	case api.Rabin, api.Streett:
		return 2 * g.below(most/2+1)
	}
	return g.below(most + 1)
}

// marks makes a set of marks; small ones are more frequent.
func (g *generator) marks(of int) int {
	set := g.below(1 << of)
	if g.below(3) > 0 {
		set &= g.below(1 << of)
	}
	return set
}

// automaton makes an automaton with any edges.
func (g *generator) automaton(kind, props, states, edges, marks int) api.Automaton {
	a := api.Automaton{Props: props, States: states, Kind: kind, Marks: g.marksOf(kind, marks)}
	for s := range states {
		if g.below(2) == 0 {
			a.Start = append(a.Start, s)
		}
	}
	for range edges {
		care := g.below(1 << props)
		a.Edges = append(a.Edges, api.Edge{From: g.below(states), To: g.below(states), Care: care, Bits: g.below(1<<props) & care, Marks: g.marks(a.Marks)})
	}
	return a
}

// whole makes a deterministic and complete automaton.
func (g *generator) whole(kind, props, states, marks int) api.Automaton {
	a := api.Automaton{Props: props, States: states, Start: []int{g.below(states)}, Kind: kind, Marks: g.marksOf(kind, marks)}
	for s := range states {
		care := g.below(1 << props)
		for l := range 1 << props {
			if l&^care == 0 {
				a.Edges = append(a.Edges, api.Edge{From: s, To: g.below(states), Care: care, Bits: l, Marks: g.marks(a.Marks)})
			}
		}
	}
	return a
}

// word makes a word.
func (g *generator) word(props, stem, loop int) api.Word {
	var w api.Word
	for range stem {
		w.Stem = append(w.Stem, g.below(1<<props))
	}
	for range loop {
		w.Loop = append(w.Loop, g.below(1<<props))
	}
	return w
}

// lists returns all lists of at most most letters below n.
func lists(n, most int) [][]int {
	all := [][]int{nil}
	for from := 0; most > 0; most-- {
		to := len(all)
		for ; from < to; from++ {
			for l := range n {
				all = append(all, append(slices.Clone(all[from]), l))
			}
		}
	}
	return all
}

// smallWords returns all words with a Stem of at most stem letters and a Loop of at most loop letters.
func smallWords(props, stem, loop int) []api.Word {
	var all []api.Word
	for _, s := range lists(1<<props, stem) {
		for _, l := range lists(1<<props, loop)[1:] {
			all = append(all, api.Word{Stem: s, Loop: l})
		}
	}
	return all
}

// letter is the letter of w at position k.
func letter(w api.Word, k int) int {
	if k < len(w.Stem) {
		return w.Stem[k]
	}
	return w.Loop[(k-len(w.Stem))%len(w.Loop)]
}

// spot is a place of a walk: a number for where it is, and the marks that it has met.
type spot struct {
	at   [2]int
	inf  [2]int
	gone bool // whether it has taken a step
}

// closed reports whether a walk from at leads back there with marks that are good. A run is accepted if and only if it reaches such a place: the edges that it takes infinitely often are a closed walk.
func closed(at [2]int, steps func(at [2]int) []spot, good func(inf [2]int) bool) bool {
	seen := map[spot]bool{{at: at}: true}
	waiting := []spot{{at: at}}
	for len(waiting) > 0 {
		here := waiting[0]
		waiting = waiting[1:]
		if here.gone && here.at == at && good(here.inf) {
			return true
		}
		for _, next := range steps(here.at) {
			next.inf[0] |= here.inf[0]
			next.inf[1] |= here.inf[1]
			next.gone = true
			if !seen[next] {
				seen[next] = true
				waiting = append(waiting, next)
			}
		}
	}
	return false
}

// reached returns all places that walks from these ones reach.
func reached(from [][2]int, steps func(at [2]int) []spot) [][2]int {
	list := slices.Clone(from)
	for i := 0; i < len(list); i++ {
		for _, next := range steps(list[i]) {
			if !slices.Contains(list, next.at) {
				list = append(list, next.at)
			}
		}
	}
	return list
}

// leads reports whether a walk from one of these places leads to one with a good closed walk.
func leads(from [][2]int, steps func(at [2]int) []spot, good func(inf [2]int) bool) bool {
	return slices.ContainsFunc(reached(from, steps), func(at [2]int) bool { return closed(at, steps, good) })
}

// accepts is the acceptance of an automaton, for walks whose marks are the first ones.
func accepts(a api.Automaton) func(inf [2]int) bool {
	return func(inf [2]int) bool {
		is, _ := aut.Accepts(a.Kind, a.Marks, inf[0])
		return is
	}
}

// pairsOf returns the places with these states and a 0.
func pairsOf(states []int) [][2]int {
	var list [][2]int
	for _, s := range states {
		list = append(list, [2]int{s, 0})
	}
	return list
}

// has is Has, by the definition: places are states and positions.
func has(a api.Automaton, w api.Word) bool {
	steps := func(at [2]int) []spot {
		next := at[1] + 1
		if next == len(w.Stem)+len(w.Loop) {
			next = len(w.Stem)
		}
		var list []spot
		for _, e := range a.Edges {
			if e.From == at[0] && letter(w, at[1])&e.Care == e.Bits {
				list = append(list, spot{at: [2]int{e.To, next}, inf: [2]int{e.Marks}})
			}
		}
		return list
	}
	return leads(pairsOf(a.Start), steps, accepts(a))
}

// live is whether a word has an accepted run from one of these states, by the definition.
func live(a api.Automaton, from ...int) bool {
	steps := func(at [2]int) []spot {
		var list []spot
		for _, e := range a.Edges {
			if e.From == at[0] {
				list = append(list, spot{at: [2]int{e.To}, inf: [2]int{e.Marks}})
			}
		}
		return list
	}
	return leads(pairsOf(from), steps, accepts(a))
}

// within is Within, by the definition: places are pairs of states.
func within(a, b api.Automaton) bool {
	steps := func(at [2]int) []spot {
		var list []spot
		for _, e := range a.Edges {
			for _, f := range b.Edges {
				if e.From == at[0] && f.From == at[1] && common(e, f, a.Props) {
					list = append(list, spot{at: [2]int{e.To, f.To}, inf: [2]int{e.Marks, f.Marks}})
				}
			}
		}
		return list
	}
	var from [][2]int
	for _, s := range a.Start {
		from = append(from, [2]int{s, b.Start[0]})
	}
	return !leads(from, steps, func(inf [2]int) bool {
		is, _ := aut.Accepts(a.Kind, a.Marks, inf[0])
		other, _ := aut.Accepts(b.Kind, b.Marks, inf[1])
		return is && !other
	})
}

// common reports whether two edges have a letter in common.
func common(e, f api.Edge, props int) bool {
	for l := range 1 << props {
		if l&e.Care == e.Bits && l&f.Care == f.Bits {
			return true
		}
	}
	return false
}

// isRun is Check, by the definition. Two suffixes of w are equal if they agree for as many letters as Stem and twice the Loop have.
func isRun(a api.Automaton, w api.Word, stem, loop []int) bool {
	if len(loop) == 0 {
		return false
	}
	run := append(slices.Clone(stem), loop...)
	at := -1
	for k, i := range run {
		e := a.Edges[i]
		if k == 0 && !slices.Contains(a.Start, e.From) || k > 0 && e.From != at || letter(w, k)&e.Care != e.Bits {
			return false
		}
		at = e.To
	}
	if at != a.Edges[loop[0]].From {
		return false
	}
	for k := range len(w.Stem) + 2*len(w.Loop) {
		if letter(w, len(stem)+k) != letter(w, len(run)+k) {
			return false
		}
	}
	inf := 0
	for _, i := range loop {
		inf |= a.Edges[i].Marks
	}
	return accepts(a)([2]int{inf})
}

// again is the automaton of example 1 of layer 5: proposition 0 is true infinitely often.
func again() api.Automaton {
	return api.Automaton{Props: 1, States: 1, Start: []int{0}, Marks: 1, Edges: []api.Edge{{Care: 1, Bits: 1, Marks: 1}, {Care: 1}}}
}

// changed is again with one change.
func changed(change func(a *api.Automaton)) api.Automaton {
	a := again()
	change(&a)
	return a
}

// ring is an automaton whose states, one after the other, have an edge for all letters without marks.
func ring(kind, marks, props, states int) api.Automaton {
	a := api.Automaton{Props: props, States: states, Start: []int{0}, Kind: kind, Marks: marks}
	for s := range states {
		a.Edges = append(a.Edges, api.Edge{From: s, To: (s + 1) % states})
	}
	return a
}

// invalid are automata that no function accepts.
func invalid() []api.Automaton {
	return []api.Automaton{
		{}, {Props: -1, Marks: 1}, {Props: 7, Marks: 1}, {States: -1, Marks: 1}, {States: 3001, Marks: 1}, {States: math.MaxInt, Marks: 1},
		{Kind: -1}, {Kind: 6}, {Kind: math.MinInt}, {Kind: api.Rabin, Marks: 3}, {Kind: api.Parity, Marks: 41}, {Kind: api.General, Marks: -1}, {Kind: api.CoBuchi, Marks: 2},
		changed(func(a *api.Automaton) { a.Start = []int{0, 0} }),
		changed(func(a *api.Automaton) { a.Start = []int{1} }),
		changed(func(a *api.Automaton) { a.Start = []int{-1} }),
		changed(func(a *api.Automaton) { a.States, a.Start = 2, []int{1, 0} }),
		changed(func(a *api.Automaton) { a.Edges = make([]api.Edge, api.MaxEdges+1) }),
		changed(func(a *api.Automaton) { a.Edges[0].From = 1 }),
		changed(func(a *api.Automaton) { a.Edges[0].To = -1 }),
		changed(func(a *api.Automaton) { a.Edges[0].Care = 2 }),
		changed(func(a *api.Automaton) { a.Edges[0].Care = 0 }),
		changed(func(a *api.Automaton) { a.Edges[0].Marks = 2 }),
		changed(func(a *api.Automaton) { a.Edges[0].Marks = math.MinInt }),
	}
}

// invalidWords are words that are not valid over props propositions.
func invalidWords(props int) []api.Word {
	bad := []api.Word{{}, {Stem: []int{0}}, {Loop: []int{-1}}, {Stem: []int{math.MinInt}, Loop: []int{0}}, {Loop: make([]int, 201)}, {Stem: make([]int, 200), Loop: []int{0}}}
	return append(bad, api.Word{Loop: []int{1 << props}}, api.Word{Stem: []int{0, 1 << props}, Loop: []int{0}}, api.Word{Loop: []int{0, math.MaxInt}})
}

// copied is a with lists of its own.
func copied(a api.Automaton) api.Automaton {
	a.Start, a.Edges = slices.Clone(a.Start), slices.Clone(a.Edges)
	return a
}

// identical reports whether a and b have the same numbers and lists.
func identical(a, b api.Automaton) bool {
	same := a.Props == b.Props && a.States == b.States && a.Kind == b.Kind && a.Marks == b.Marks
	return same && slices.Equal(a.Start, b.Start) && slices.Equal(a.Edges, b.Edges)
}
