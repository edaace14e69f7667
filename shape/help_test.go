package shape_test

import (
	"fmt"
	"math"
	"slices"
	"testing"

	"lodesman/api"
	"lodesman/aut"
	"lodesman/member"
)

// kinds are all kinds of acceptance.
var kinds = []int{api.Buchi, api.General, api.CoBuchi, api.Rabin, api.Streett, api.Parity}

// generator makes things that look random but are the same in every run.
type generator uint32

func (g *generator) below(n int) int {
	*g = *g*1664525 + 1013904223
	return int(*g>>8) % n
}

// marksOf makes a number of marks that the kind permits, at most most.
func (g *generator) marksOf(kind, most int) int {
	switch kind {
	case api.Buchi, api.CoBuchi:
		return 1
	case api.Rabin, api.Streett:
		return 2 * g.below(most/2+1)
	}
	return g.below(most + 1)
}

// automaton makes an automaton with any edges.
func (g *generator) automaton(kind, props, states, edges, marks int) api.Automaton {
	a := api.Automaton{Props: props, States: states, Kind: kind, Marks: g.marksOf(kind, marks)}
	for s := range states {
		if g.below(2) == 0 {
			a.Start = append(a.Start, s)
		}
	}
	for range edges {
		care := g.below(1 << props)
		a.Edges = append(a.Edges, api.Edge{From: g.below(states), To: g.below(states), Care: care, Bits: g.below(1<<props) & care, Marks: g.below(1 << a.Marks)})
	}
	return a
}

// single makes a deterministic automaton; it lacks some edges.
func (g *generator) single(kind, props, states, marks int) api.Automaton {
	a := api.Automaton{Props: props, States: states, Start: []int{g.below(states)}, Kind: kind, Marks: g.marksOf(kind, marks)}
	for s := range states {
		care := g.below(1 << props)
		for l := range 1 << props {
			if l&^care == 0 && g.below(6) > 0 {
				a.Edges = append(a.Edges, api.Edge{From: s, To: g.below(states), Care: care, Bits: l, Marks: g.below(1 << a.Marks)})
			}
		}
	}
	return a
}

// twins makes an automaton with several states that have the edges of another one, in another order and to states like those of the other one.
func (g *generator) twins(kind, props, states, edges, marks, copies int) api.Automaton {
	a := g.automaton(kind, props, states, edges, marks)
	origin := make([]int, 0, states*copies)
	for k := range states * copies {
		origin = append(origin, k%states)
	}
	b := a
	b.States, b.Edges, b.Start = len(origin), nil, nil
	for s, of := range origin {
		if g.below(4) == 0 {
			b.Start = append(b.Start, s)
		}
		for _, e := range a.Edges {
			if e.From == of {
				e.From, e.To = s, e.To+states*g.below(copies)
				b.Edges = slices.Insert(b.Edges, g.below(len(b.Edges)+1), e)
			}
		}
	}
	return b
}

// words are several words over props propositions.
func (g *generator) words(props, count int) []api.Word {
	list := make([]api.Word, count)
	for i := range list {
		for range g.below(4) {
			list[i].Stem = append(list[i].Stem, g.below(1<<props))
		}
		for range 1 + g.below(5) {
			list[i].Loop = append(list[i].Loop, g.below(1<<props))
		}
	}
	return list
}

// has is whether w is a word of a.
func has(t *testing.T, a api.Automaton, w api.Word) bool {
	t.Helper()
	is, e := member.Has(a, w)
	if e != api.OK {
		t.Fatalf("Has(%v, %v): %d", a, w, e)
	}
	return is
}

// expectWords checks that a and b have the same of some words.
func expectWords(t *testing.T, a, b api.Automaton, words []api.Word) {
	t.Helper()
	for _, w := range words {
		if want := has(t, a, w); has(t, b, w) != want {
			t.Fatalf("%v: %t for %v, not for %v", w, want, a, b)
		}
	}
}

// deterministic is whether a is deterministic.
func deterministic(a api.Automaton) bool {
	is, _ := aut.Deterministic(a)
	return is
}

// spot is a state of a walk, and the marks that it has met.
type spot struct{ state, inf int }

// accepting reports whether a walk from a state leads back there with marks that are accepted.
func accepting(a api.Automaton, state int) bool {
	seen := map[spot]bool{}
	waiting := []spot{{state: state}}
	for len(waiting) > 0 {
		here := waiting[0]
		waiting = waiting[1:]
		for _, e := range a.Edges {
			next := spot{e.To, here.inf | e.Marks}
			if e.From != here.state || seen[next] {
				continue
			}
			seen[next] = true
			waiting = append(waiting, next)
			if is, _ := aut.Accepts(a.Kind, a.Marks, next.inf); is && next.state == state {
				return true
			}
		}
	}
	return false
}

// closure adds to a set of states all that step leads to.
func closure(is []bool, step func(e api.Edge) (from, to int), a api.Automaton, permitted []bool) {
	for changed := true; changed; {
		changed = false
		for _, e := range a.Edges {
			from, to := step(e)
			if is[from] && !is[to] && permitted[to] {
				is[to], changed = true, true
			}
		}
	}
}

// live is which states are live, by the definition.
func live(a api.Automaton) []bool {
	is, all := make([]bool, a.States), make([]bool, a.States)
	for s := range is {
		is[s], all[s] = accepting(a, s), true
	}
	closure(is, func(e api.Edge) (int, int) { return e.To, e.From }, a, all)
	return is
}

// useful is which states Trim keeps, by the definition.
func useful(a api.Automaton) []bool {
	good := live(a)
	is := make([]bool, a.States)
	for _, s := range a.Start {
		is[s] = good[s]
	}
	closure(is, func(e api.Edge) (int, int) { return e.From, e.To }, a, good)
	return is
}

// trim is Trim, by the definition.
func trim(a api.Automaton) api.Automaton {
	is := useful(a)
	b := api.Automaton{Props: a.Props, Kind: a.Kind, Marks: a.Marks}
	number := map[int]int{}
	for s := range a.States {
		if is[s] {
			number[s] = b.States
			b.States++
		}
	}
	for _, s := range a.Start {
		if is[s] {
			b.Start = append(b.Start, number[s])
		}
	}
	for _, e := range a.Edges {
		if is[e.From] && is[e.To] {
			b.Edges = append(b.Edges, api.Edge{From: number[e.From], To: number[e.To], Care: e.Care, Bits: e.Bits, Marks: e.Marks})
		}
	}
	return b
}

// view is what a state sees of its edges: for each letter the pairs of a class and marks.
func view(a api.Automaton, class []int, s int) string {
	text := ""
	for l := range 1 << a.Props {
		var pairs [][2]int
		for _, e := range a.Edges {
			if e.From == s && l&e.Care == e.Bits {
				pairs = append(pairs, [2]int{class[e.To], e.Marks})
			}
		}
		slices.SortFunc(pairs, func(x, y [2]int) int { return slices.Compare(x[:], y[:]) })
		text += fmt.Sprint(slices.Compact(pairs))
	}
	return text
}

// colours is Colours, by the definition: the coarsest partition is found by dividing classes as long as their states see different things.
func colours(a api.Automaton) []int {
	class := make([]int, a.States)
	for count := 0; ; {
		numbers := map[string]int{}
		next := make([]int, a.States)
		for s := range next {
			key := fmt.Sprint(class[s], " ", view(a, class, s))
			if _, ok := numbers[key]; !ok {
				numbers[key] = len(numbers)
			}
			next[s] = numbers[key]
		}
		class = next
		if len(numbers) == count {
			return class
		}
		count = len(numbers)
	}
}

// merge is Merge, by the definition.
func merge(a api.Automaton) api.Automaton {
	class := colours(a)
	b := api.Automaton{Props: a.Props, Kind: a.Kind, Marks: a.Marks}
	for _, s := range a.Start {
		if !slices.Contains(b.Start, class[s]) {
			b.Start = append(b.Start, class[s])
		}
	}
	slices.Sort(b.Start)
	for c := 0; slices.Contains(class, c); c++ {
		b.States++
		first := slices.Index(class, c)
		for _, e := range a.Edges {
			if e.From == first {
				e.From, e.To = c, class[e.To]
				if !slices.Contains(b.Edges, e) {
					b.Edges = append(b.Edges, e)
				}
			}
		}
	}
	return b
}

// identical reports whether a and b have the same numbers and lists.
func identical(a, b api.Automaton) bool {
	same := a.Props == b.Props && a.States == b.States && a.Kind == b.Kind && a.Marks == b.Marks
	return same && slices.Equal(a.Start, b.Start) && slices.Equal(a.Edges, b.Edges)
}

// zero reports whether a is the zero value, as a result beside an error has to be.
func zero(a api.Automaton) bool { return identical(a, api.Automaton{}) }

// copied is a with lists of its own.
func copied(a api.Automaton) api.Automaton {
	a.Start, a.Edges = slices.Clone(a.Start), slices.Clone(a.Edges)
	return a
}

// again is the automaton of example 1 of layer 5: proposition 0 is true infinitely often.
func again() api.Automaton {
	return api.Automaton{Props: 1, States: 1, Start: []int{0}, Marks: 1, Edges: []api.Edge{{Care: 1, Bits: 1, Marks: 1}, {Care: 1}}}
}

// changed is again with one change.
func changed(change func(a *api.Automaton)) api.Automaton {
	a := again()
	change(&a)
	return a
}

// ring is an automaton whose states, one after the other, have an edge for all letters; the marks are on the last one.
func ring(kind, marks, props, states int) api.Automaton {
	a := api.Automaton{Props: props, States: states, Start: []int{0}, Kind: kind, Marks: marks}
	for s := range states {
		a.Edges = append(a.Edges, api.Edge{From: s, To: (s + 1) % states})
	}
	a.Edges[states-1].Marks = 1<<marks - 1
	return a
}

// crowd is an automaton with as many states and edges as are permitted.
func crowd(kind, marks int, marksOf func(i int) int) api.Automaton {
	a := api.Automaton{Props: 6, States: api.MaxStates, Start: []int{0, 2999}, Kind: kind, Marks: marks}
	for i := range api.MaxEdges {
		a.Edges = append(a.Edges, api.Edge{From: i % 3000, To: (i + 1 + i%7) % 3000, Care: 63, Bits: i % 64, Marks: marksOf(i)})
	}
	return a
}

// invalid are automata that no function accepts.
func invalid() []api.Automaton {
	return []api.Automaton{
		{}, {Props: -1, Marks: 1}, {Props: 7, Marks: 1}, {States: -1, Marks: 1}, {States: 3001, Marks: 1}, {States: math.MaxInt, Marks: 1},
		{Kind: -1}, {Kind: 6}, {Kind: math.MinInt}, {Kind: api.Rabin, Marks: 3}, {Kind: api.Parity, Marks: 41}, {Kind: api.General, Marks: -1}, {Kind: api.CoBuchi, Marks: 2},
		changed(func(a *api.Automaton) { a.Start = []int{0, 0} }),
		changed(func(a *api.Automaton) { a.Start = []int{1} }),
		changed(func(a *api.Automaton) { a.Start = []int{-1} }),
		changed(func(a *api.Automaton) { a.States, a.Start = 2, []int{1, 0} }),
		changed(func(a *api.Automaton) { a.Edges = make([]api.Edge, api.MaxEdges+1) }),
		changed(func(a *api.Automaton) { a.Edges[0].From = 1 }),
		changed(func(a *api.Automaton) { a.Edges[0].To = -1 }),
		changed(func(a *api.Automaton) { a.Edges[0].Care = 2 }),
		changed(func(a *api.Automaton) { a.Edges[0].Care = 0 }),
		changed(func(a *api.Automaton) { a.Edges[0].Marks = 2 }),
		changed(func(a *api.Automaton) { a.Edges[0].Marks = math.MinInt }),
	}
}
