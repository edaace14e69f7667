package det_test

import (
	"fmt"
	"math"
	"slices"
	"testing"

	"lodesman/api"
	"lodesman/aut"
	"lodesman/ltl"
	"lodesman/member"
	"lodesman/tableau"
	"lodesman/truth"
)

// kinds are all kinds of acceptance.
var kinds = []int{api.Buchi, api.General, api.CoBuchi, api.Rabin, api.Streett, api.Parity}

// names are the propositions of the tests.
var names = []string{"p", "q", "r", "s", "t", "u"}

func read(t *testing.T, text string) api.Formula {
	t.Helper()
	f, e := ltl.Parse(names, text)
	if e != api.OK {
		t.Fatalf("Parse(%q): %d", text, e)
	}
	return f
}

func show(f api.Formula) string {
	s, _ := ltl.Print(names, f)
	return s
}

func node(op int, args ...api.Formula) api.Formula { return api.Formula{Op: op, Args: args} }

func prop(i int) api.Formula { return api.Formula{Op: api.Var, Var: i} }

// chain is f behind n times the same operator.
func chain(op, n int, f api.Formula) api.Formula {
	for range n {
		f = node(op, f)
	}
	return f
}

// generator makes things that look random but are the same in every run.
type generator uint32

func (g *generator) below(n int) int {
	*g = *g*1664525 + 1013904223
	return int(*g>>8) % n
}

// marksOf makes a number of marks that the kind permits, at most most.
func (g *generator) marksOf(kind, most int) int {
	switch kind {
	case api.Buchi, api.CoBuchi:
		return 1
	case api.Rabin, api.Streett:
		return 2 * g.below(most/2+1)
	}
	return g.below(most + 1)
}

// marks makes a set of marks, few of them or many.
func (g *generator) marks(count, density int) int {
	set := 0
	for m := range count {
		if g.below(10) < density {
			set |= 1 << m
		}
	}
	return set
}

// automaton makes an automaton with any edges.
func (g *generator) automaton(kind, props, states, edges, marks int) api.Automaton {
	a := api.Automaton{Props: props, States: states, Kind: kind, Marks: g.marksOf(kind, marks)}
	for s := range states {
		if g.below(2) == 0 {
			a.Start = append(a.Start, s)
		}
	}
	density := 1 + g.below(6)
	for range edges {
		care := g.below(1<<props) | g.below(1<<props)
		a.Edges = append(a.Edges, api.Edge{From: g.below(states), To: g.below(states), Care: care, Bits: g.below(1<<props) & care, Marks: g.marks(a.Marks, density)})
	}
	return a
}

// scattered makes an automaton with different edges for each letter.
func (g *generator) scattered(kind, props, states, marks int) api.Automaton {
	a := api.Automaton{Props: props, States: states, Start: []int{0}, Kind: kind, Marks: marks}
	density, frequency := 1+g.below(6), 1+g.below(8)
	for l := range 1 << props {
		for s := range states {
			for to := range states {
				if g.below(10) < frequency {
					a.Edges = append(a.Edges, api.Edge{From: s, To: to, Care: 1<<props - 1, Bits: l, Marks: g.marks(marks, density)})
				}
			}
		}
	}
	return a
}

// single makes a deterministic automaton; it lacks some edges.
func (g *generator) single(kind, props, states, marks int) api.Automaton {
	a := api.Automaton{Props: props, States: states, Start: []int{g.below(states)}, Kind: kind, Marks: marks}
	density := 1 + g.below(6)
	for s := range states {
		care := g.below(1 << props)
		for l := range 1 << props {
			if l&^care == 0 && g.below(12) > 0 {
				a.Edges = append(a.Edges, api.Edge{From: s, To: g.below(states), Care: care, Bits: l, Marks: g.marks(marks, density)})
			}
		}
	}
	return a
}

// words are several words over props propositions.
func (g *generator) words(props, count int) []api.Word {
	list := make([]api.Word, count)
	for i := range list {
		for range g.below(4) {
			list[i].Stem = append(list[i].Stem, g.below(1<<props))
		}
		for range 1 + g.below(6) {
			list[i].Loop = append(list[i].Loop, g.below(1<<props))
		}
	}
	return list
}

// smallWords are all words over one proposition with a stem and a loop of these lengths.
func smallWords(stem, loop int) []api.Word {
	var list []api.Word
	for begin := range 1 << stem {
		for round := range 1 << loop {
			w := api.Word{}
			for k := range stem {
				w.Stem = append(w.Stem, begin>>k&1)
			}
			for k := range loop {
				w.Loop = append(w.Loop, round>>k&1)
			}
			list = append(list, w)
		}
	}
	return list
}

// pairs are all automata with two states over one proposition: for each state, letter and state there is no edge, one, or one with the mark.
func pairs(kind int) []api.Automaton {
	var list []api.Automaton
	for code := range 6561 {
		a := api.Automaton{Props: 1, States: 2, Start: []int{0}, Kind: kind, Marks: 1}
		for k := range 8 {
			if code%3 > 0 {
				a.Edges = append(a.Edges, api.Edge{From: k & 1, To: k >> 1 & 1, Care: 1, Bits: k >> 2, Marks: code%3 - 1})
			}
			code /= 3
		}
		list = append(list, a)
	}
	return list
}

// formula makes a formula with few temporal subformulas, each of which may occur several times, and many other nodes.
func (g *generator) formula(props, temporal, inner, outer int) api.Formula {
	leaves := []api.Formula{node(api.True)}
	for i := range props {
		leaves = append(leaves, prop(i), prop(i), prop(i))
	}
	pool := slices.Clone(leaves)
	for range temporal {
		op := api.Next + g.below(api.Weak-api.Next+1)
		f := node(op, g.combined(pool, 1+g.below(inner)))
		if op >= api.Until {
			f.Args = append(f.Args, g.combined(pool, 1+g.below(inner)))
		}
		pool = append(pool, f, f)
	}
	return g.combined(pool[len(leaves)-1:], 1+g.below(outer))
}

// combined makes a formula from others with that many nodes in addition.
func (g *generator) combined(pool []api.Formula, nodes int) api.Formula {
	switch {
	case nodes <= 1:
		return pool[g.below(len(pool))]
	case g.below(6) == 0:
		return node(api.Not, g.combined(pool, nodes-1))
	}
	left := g.below(nodes)
	f := g.combined(pool, left)
	return node(api.And+g.below(4), f, g.combined(pool, nodes-1-left))
}

// brief is the beginning of what an automaton is printed as.
func brief(a api.Automaton) string { return fmt.Sprintf("%.3000s", fmt.Sprint(a)) }

// has is whether w is a word of a.
func has(t *testing.T, a api.Automaton, w api.Word) bool {
	t.Helper()
	is, e := member.Has(a, w)
	if e != api.OK {
		t.Fatalf("Has(%s, %v): %d", brief(a), w, e)
	}
	return is
}

// model is whether w is a model of f.
func model(t *testing.T, f api.Formula, w api.Word) bool {
	t.Helper()
	is, e := truth.Model(f, w)
	if e != api.OK {
		t.Fatalf("Model(%s, %v): %d", show(f), w, e)
	}
	return is
}

// general is an automaton of the models of f.
func general(t *testing.T, f api.Formula, n int) api.Automaton {
	t.Helper()
	a, e := tableau.General(f, n)
	if e != api.OK {
		t.Fatalf("General(%s): %d", show(f), e)
	}
	return a
}

// expectWords checks that a and b have the same of some words.
func expectWords(t *testing.T, a, b api.Automaton, words []api.Word) {
	t.Helper()
	for _, w := range words {
		if want := has(t, a, w); has(t, b, w) != want {
			t.Fatalf("%v: %t for %s, not for %s", w, want, brief(a), brief(b))
		}
	}
}

// expectWithin checks that all words of a are words of b.
func expectWithin(t *testing.T, a, b api.Automaton) {
	t.Helper()
	full, e := aut.Fill(b)
	is, d := member.Within(a, full)
	if e != api.OK || d != api.OK || !is {
		t.Fatalf("Within(%v, %v) = %t, %d, %d", a, b, is, e, d)
	}
}

// expectApart checks that a and b, which is deterministic and complete and of Kind Parity, have no word in common.
func expectApart(t *testing.T, a, b api.Automaton) {
	t.Helper()
	b = copied(b)
	b.Marks++
	for i := range b.Edges {
		b.Edges[i].Marks = b.Edges[i].Marks<<1 | 1
	}
	expectWithin(t, a, b)
}

func deterministic(a api.Automaton) bool {
	is, _ := aut.Deterministic(a)
	return is
}

func complete(a api.Automaton) bool {
	is, _ := aut.Complete(a)
	return is
}

// expectShape checks that b is a valid, deterministic and complete automaton of that kind over props propositions.
func expectShape(t *testing.T, b api.Automaton, e api.Errno, kind, props int) {
	t.Helper()
	if e != api.OK || !aut.Valid(b) || !deterministic(b) || !complete(b) || b.Kind != kind || b.Props != props {
		t.Fatalf("%s, %d", brief(b), e)
	}
}

// spot is a state of a walk, and the marks that it has met.
type spot struct{ state, inf int }

// accepting reports whether a walk from a state leads back there with marks that are accepted.
func accepting(a api.Automaton, state int) bool {
	seen := map[spot]bool{}
	waiting := []spot{{state: state}}
	for len(waiting) > 0 {
		here := waiting[0]
		waiting = waiting[1:]
		for _, e := range a.Edges {
			next := spot{e.To, here.inf | e.Marks}
			if e.From != here.state || seen[next] {
				continue
			}
			seen[next] = true
			waiting = append(waiting, next)
			if is, _ := aut.Accepts(a.Kind, a.Marks, next.inf); is && next.state == state {
				return true
			}
		}
	}
	return false
}

// live is which states are live, by the definition.
func live(a api.Automaton) []bool {
	is := make([]bool, a.States)
	for s := range is {
		is[s] = accepting(a, s)
	}
	for changed := true; changed; {
		changed = false
		for _, e := range a.Edges {
			if is[e.To] && !is[e.From] {
				is[e.From], changed = true, true
			}
		}
	}
	return is
}

// behind are the states behind those of a set, with a letter.
func behind(a api.Automaton, set []int, letter int) []int {
	var next []int
	for _, e := range a.Edges {
		if letter&e.Care == e.Bits && slices.Contains(set, e.From) {
			next = append(next, e.To)
		}
	}
	slices.Sort(next)
	return slices.Compact(next)
}

// extends reports whether all prefixes of w are prefixes of words of a: whether each leads to a live state.
func extends(a api.Automaton, w api.Word) bool {
	good := live(a)
	isLive := func(s int) bool { return good[s] }
	set, seen := a.Start, map[string]bool{}
	for _, l := range w.Stem {
		if !slices.ContainsFunc(set, isLive) {
			return false
		}
		set = behind(a, set, l)
	}
	for !seen[fmt.Sprint(set)] {
		seen[fmt.Sprint(set)] = true
		for _, l := range w.Loop {
			if !slices.ContainsFunc(set, isLive) {
				return false
			}
			set = behind(a, set, l)
		}
	}
	return slices.ContainsFunc(set, isLive)
}

// subset is Subset, by the definition.
func subset(a api.Automaton) api.Automaton {
	b := api.Automaton{Props: a.Props, Start: []int{0}, Kind: api.General}
	sets, numbers := [][]int{a.Start}, map[string]int{fmt.Sprint(slices.Clone(a.Start)): 0}
	for s := 0; s < len(sets); s++ {
		for l := range 1 << a.Props {
			next := behind(a, sets[s], l)
			key := fmt.Sprint(next)
			if _, ok := numbers[key]; !ok {
				numbers[key] = len(sets)
				sets = append(sets, next)
			}
			b.Edges = append(b.Edges, api.Edge{From: s, To: numbers[key], Care: 1<<a.Props - 1, Bits: l})
		}
	}
	b.States = len(sets)
	return b
}

// identical reports whether a and b have the same numbers and lists.
func identical(a, b api.Automaton) bool {
	same := a.Props == b.Props && a.States == b.States && a.Kind == b.Kind && a.Marks == b.Marks
	return same && slices.Equal(a.Start, b.Start) && slices.Equal(a.Edges, b.Edges)
}

// zero reports whether a is the zero value, as a result beside an error has to be.
func zero(a api.Automaton) bool { return identical(a, api.Automaton{}) }

// copied is a with lists of its own.
func copied(a api.Automaton) api.Automaton {
	a.Start, a.Edges = slices.Clone(a.Start), slices.Clone(a.Edges)
	return a
}

// again is the automaton of example 1 of layer 5: proposition 0 is true infinitely often.
func again() api.Automaton {
	return api.Automaton{Props: 1, States: 1, Start: []int{0}, Marks: 1, Edges: []api.Edge{{Care: 1, Bits: 1, Marks: 1}, {Care: 1}}}
}

// changed is again with one change.
func changed(change func(a *api.Automaton)) api.Automaton {
	a := again()
	change(&a)
	return a
}

// ring is an automaton whose states, one after the other, have an edge for all letters; the marks are on the last one.
func ring(kind, marks, props, states int) api.Automaton {
	a := api.Automaton{Props: props, States: states, Start: []int{0}, Kind: kind, Marks: marks}
	for s := range states {
		a.Edges = append(a.Edges, api.Edge{From: s, To: (s + 1) % states})
	}
	a.Edges[states-1].Marks = 1<<marks - 1
	return a
}

// delayed is an automaton that waits for proposition 0 and then for that many positions more; its sets of states are very many.
func delayed(kind, marks, props, states int) api.Automaton {
	a := api.Automaton{Props: props, States: states, Start: []int{0}, Kind: kind, Marks: marks, Edges: []api.Edge{{}, {To: 1, Care: 1, Bits: 1}}}
	for s := 1; s < states-1; s++ {
		a.Edges = append(a.Edges, api.Edge{From: s, To: s + 1})
	}
	a.Edges = append(a.Edges, api.Edge{From: states - 1, Marks: 1<<marks - 1})
	return a
}

// crowd is an automaton with as many states and edges as are permitted.
func crowd(kind, marks, props int, marksOf func(i int) int) api.Automaton {
	a := api.Automaton{Props: props, States: api.MaxStates, Start: []int{0, 2999}, Kind: kind, Marks: marks}
	for i := range api.MaxEdges {
		a.Edges = append(a.Edges, api.Edge{From: i % 3000, To: (i + 1 + i%7) % 3000, Care: 1<<props - 1, Bits: i % (1 << props), Marks: marksOf(i)})
	}
	return a
}

// invalid are automata that no function accepts.
func invalid() []api.Automaton {
	return []api.Automaton{
		{}, {Props: -1, Marks: 1}, {Props: 7, Marks: 1}, {States: -1, Marks: 1}, {States: 3001, Marks: 1}, {States: math.MaxInt, Marks: 1},
		{Kind: -1}, {Kind: 6}, {Kind: math.MinInt}, {Kind: api.Rabin, Marks: 3}, {Kind: api.Parity, Marks: 41}, {Kind: api.General, Marks: -1}, {Kind: api.CoBuchi, Marks: 2},
		changed(func(a *api.Automaton) { a.Start = []int{0, 0} }),
		changed(func(a *api.Automaton) { a.Start = []int{1} }),
		changed(func(a *api.Automaton) { a.Start = []int{-1} }),
		changed(func(a *api.Automaton) { a.States, a.Start = 2, []int{1, 0} }),
		changed(func(a *api.Automaton) { a.Edges = make([]api.Edge, api.MaxEdges+1) }),
		changed(func(a *api.Automaton) { a.Edges[0].From = 1 }),
		changed(func(a *api.Automaton) { a.Edges[0].To = -1 }),
		changed(func(a *api.Automaton) { a.Edges[0].Care = 2 }),
		changed(func(a *api.Automaton) { a.Edges[0].Care = 0 }),
		changed(func(a *api.Automaton) { a.Edges[0].Marks = 2 }),
		changed(func(a *api.Automaton) { a.Edges[0].Marks = math.MinInt }),
	}
}

// badFormulas are formulas that are not valid over any number of propositions.
func badFormulas() []api.Formula {
	wide := prop(0)
	for range 100 {
		wide = node(api.Iff, wide, wide)
	}
	endless := []api.Formula{{Op: api.Next}}
	endless[0].Args = endless
	return []api.Formula{
		{Op: -1}, {Op: 14}, {Op: 1 << 62}, {Op: math.MinInt},
		{Op: api.Var, Var: -1}, {Op: api.Var, Var: 6}, {Op: api.Var, Var: 1 << 62},
		{Op: api.False, Var: 1}, {Op: api.Always}, node(api.Var, prop(0)), node(api.Next, prop(0), prop(0)), node(api.And, prop(0)),
		node(api.And, prop(0), node(api.Next, api.Formula{Op: 99})), {Op: api.Next, Var: 2, Args: []api.Formula{prop(0)}},
		chain(api.Next, api.MaxNodes, prop(0)), chain(api.Not, 1<<16, prop(0)), wide, endless[0], {Op: api.And, Args: make([]api.Formula, 100000)},
	}
}
