package tableau

import (
	"lodesman/api"
	"lodesman/letters"
)

// term is a way to make a formula true: with these letters now, and with what is owed at the next position. The pressing formulas of late are put off.
type term struct {
	owed, late set
	letters    letters.Set
}

// A formula may have more terms than can be kept, and their computation may take too long; it is given up then. No formula of weight 5 has more than 32 terms.
const (
	mostTerms = 2000
	mostSteps = 1 << 24
)

// expander computes terms of the formulas of a table.
type expander struct {
	*table
	props int
	known map[int][]term // of nodes
	steps int
	full  bool // whether it has been given up
}

func newExpander(t *table, props int) *expander {
	return &expander{table: t, props: props, known: map[int][]term{}}
}

// all returns the terms of the conjunction of obligations.
func (x *expander) all(owed set) []term {
	list := x.free()
	for i := range x.nodes {
		if owed.has(i) {
			list = x.both(list, x.terms(i))
		}
	}
	return list
}

// terms returns the terms of the formula i.
func (x *expander) terms(i int) []term {
	list, ok := x.known[i]
	if !ok {
		list = x.expanded(i)
		x.known[i] = list
	}
	return list
}

func (x *expander) expanded(i int) []term {
	n := x.nodes[i]
	first := func() []term { return x.terms(n.first) }
	second := func() []term { return x.terms(n.second) }
	switch n.op {
	case api.True:
		return x.free()
	case api.Var:
		return x.now(letters.Of(where(n.prop), x.props))
	case api.Not:
		prop := x.nodes[n.first].prop
		return x.now(letters.All(x.props) &^ letters.Of(where(prop), x.props))
	case api.And:
		return x.both(first(), second())
	case api.Or:
		return x.either(first(), second())
	case api.Next:
		return x.later(i)
	case api.Finally:
		return x.either(first(), x.later(i))
	case api.Always:
		return x.both(first(), x.later(i))
	case api.Until, api.Weak:
		return x.either(second(), x.both(first(), x.later(i)))
	case api.Release:
		return x.both(second(), x.either(first(), x.later(i)))
	}
	return nil // False
}

// where returns an edge with the letters in which a proposition is true.
func where(prop int) api.Edge { return api.Edge{Care: 1 << prop, Bits: 1 << prop} }

// free returns the term that demands nothing.
func (x *expander) free() []term { return x.now(letters.All(x.props)) }

// now returns the term that demands one of these letters.
func (x *expander) now(set letters.Set) []term { return []term{{letters: set}} }

// later returns the term that leaves all that a temporal formula demands to the next position.
func (x *expander) later(i int) []term {
	t := term{letters: letters.All(x.props)}
	switch dutyOf(x.nodes[i].op) {
	case passing:
		t.owed = x.owe(x.nodes[i].first)
	case lasting:
		t.owed = only(i)
	case pressing:
		t.owed, t.late = only(i), only(i)
	}
	return []term{t}
}

// both returns the terms of a conjunction.
func (x *expander) both(list, other []term) []term {
	return x.collected(func(add func(term)) {
		for _, s := range list {
			for _, t := range other {
				add(term{owed: s.owed | t.owed, late: s.late | t.late, letters: s.letters & t.letters})
			}
		}
	})
}

// either returns the terms of a disjunction.
func (x *expander) either(list, other []term) []term {
	return x.collected(func(add func(term)) {
		for _, t := range list {
			add(t)
		}
		for _, t := range other {
			add(t)
		}
	})
}

// collected returns the terms that are added, except those that are not needed beside others.
func (x *expander) collected(each func(add func(term))) []term {
	var list []term
	numbers := map[[2]set]int{}
	each(func(t term) {
		x.spend(1)
		if t.letters == 0 || x.full {
			return
		}
		key := [2]set{t.owed, t.late}
		i, ok := numbers[key]
		if !ok {
			i = len(list)
			numbers[key] = i
			list = append(list, term{owed: t.owed, late: t.late})
			x.full = len(list) > mostTerms
		}
		list[i].letters |= t.letters
	})
	return x.least(list)
}

// least takes from each term the letters with which another one owes less and puts off less. This keeps all models: whoever can do with more can do with less.
func (x *expander) least(list []term) []term {
	x.spend(len(list) * len(list))
	if x.full {
		return nil
	}
	var left []term
	for i, t := range list {
		for k, s := range list {
			if k != i && s.owed&^t.owed == 0 && s.late&^t.late == 0 {
				t.letters &^= s.letters
			}
		}
		if t.letters != 0 {
			left = append(left, t)
		}
	}
	return left
}

// spend counts steps.
func (x *expander) spend(steps int) {
	x.steps += steps
	x.full = x.full || x.steps > mostSteps
}
