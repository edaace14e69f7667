package tableau

import (
	"lodesman/api"
	"lodesman/letters"
)

// place is a state: a set of obligations, and the number of the pressing formula that is waited for (0 in automata of Kind General, which wait for all of them at once).
type place struct {
	owed  set
	level int
}

// builder explores the places of an automaton.
type builder struct {
	*expander
	mark    marking
	leaving map[set][]term // of the obligations that have been met
	numbers map[place]int
	places  []place
}

// marking returns the level behind an edge that puts off the formulas of late, and the marks of this edge.
type marking func(level int, late set) (next, marks int)

// translate returns an automaton of Kind General or Buchi whose words are the common models of the formulas.
func translate(kind, n int, list ...api.Formula) (api.Automaton, api.Errno) {
	t, e := prepared(list)
	if e != api.OK {
		return api.Automaton{}, e
	}
	b := &builder{expander: newExpander(t, n), leaving: map[set][]term{}, numbers: map[place]int{}}
	a := api.Automaton{Props: n, Start: []int{0}, Kind: kind}
	wanted := t.pressing()
	if kind == api.General {
		a.Marks, b.mark = len(wanted), together(wanted)
	} else {
		a.Marks, b.mark = 1, inTurn(wanted)
	}
	if a.Marks > api.MaxMarks {
		return api.Automaton{}, api.ErrFull
	}
	if !b.build(&a) {
		return api.Automaton{}, api.ErrFull
	}
	return a, api.OK
}

// build adds all states and edges. It returns false if there are too many.
func (b *builder) build(a *api.Automaton) bool {
	cubes := letters.Cubes(a.Props)
	b.number(b.start(), 0)
	for at := 0; at < len(b.places); at++ {
		here := b.places[at]
		for _, t := range b.ways(here.owed) {
			level, marks := b.mark(here.level, t.late)
			to := b.number(t.owed, level)
			for _, c := range letters.Cover(t.letters, cubes) {
				a.Edges = append(a.Edges, api.Edge{From: at, To: to, Care: c.Care, Bits: c.Bits, Marks: marks})
			}
		}
		if b.full || len(b.places) > api.MaxStates || len(a.Edges) > api.MaxEdges {
			return false
		}
	}
	a.States = len(b.places)
	return true
}

// number returns the number of the place with these obligations.
func (b *builder) number(owed set, level int) int {
	p := place{owed: b.reduced(owed), level: level}
	if _, ok := b.numbers[p]; !ok {
		b.numbers[p] = len(b.places)
		b.places = append(b.places, p)
	}
	return b.numbers[p]
}

// ways returns the terms of the obligations; several levels need them.
func (b *builder) ways(owed set) []term {
	if _, ok := b.leaving[owed]; !ok {
		b.leaving[owed] = b.all(owed)
	}
	return b.leaving[owed]
}

// together gives each wanted formula a mark: it is on the edges that do not put the formula off.
func together(wanted []int) marking {
	return func(level int, late set) (next, marks int) {
		for m, i := range wanted {
			if !late.has(i) {
				marks |= 1 << m
			}
		}
		return level, marks
	}
}

// inTurn waits for one wanted formula after the other. Each time the last of them is not put off there is a mark, and the turn begins again, with the same edge.
func inTurn(wanted []int) marking {
	skip := func(level int, late set) int {
		for level < len(wanted) && !late.has(wanted[level]) {
			level++
		}
		return level
	}
	return func(level int, late set) (next, marks int) {
		next = skip(level, late)
		if next < len(wanted) {
			return next, 0
		}
		next = skip(0, late)
		if next == len(wanted) {
			next = 0
		}
		return next, 1
	}
}
