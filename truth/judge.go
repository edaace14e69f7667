package truth

import (
	"iter"
	"slices"

	"lodesman/api"
	"lodesman/ltl"
)

// term is a subformula; its arguments are positions in the list of all subformulas, and are less than its own.
type term struct {
	op, prop int
	args     []int
}

// termsOf returns the terms of the subformulas of a valid formula.
func termsOf(f api.Formula) []term {
	subs, _ := ltl.Subs(f)
	var list []term
	for _, g := range subs {
		x := term{op: g.Op, prop: g.Var}
		for _, h := range g.Args {
			x.args = append(x.args, slices.IndexFunc(subs, func(s api.Formula) bool { return ltl.Same(s, h) }))
		}
		list = append(list, x)
	}
	return list
}

// law tells whether a formula is true at a position, from whether it is true at the next one.
type law func(at int, later bool) bool

// judge computes the truth of terms on words whose Stem and Loop have certain lengths. Each word overwrites the rows of the previous one: many short words are read in a row.
type judge struct {
	stem    int
	letters []int
	terms   []term
	laws    []law
	rows    [][]bool
}

func newJudge(terms []term, stem, loop int) *judge {
	j := &judge{stem: stem, letters: make([]int, stem+loop), terms: terms}
	for _, x := range terms {
		j.laws = append(j.laws, j.lawOf(x))
		j.rows = append(j.rows, make([]bool, stem+loop))
	}
	return j
}

// model reports whether the last term is true of w at position 0.
func (j *judge) model(w api.Word) bool {
	j.read(w)
	return j.rows[len(j.rows)-1][0]
}

// read computes the rows for w.
func (j *judge) read(w api.Word) {
	copy(j.letters, w.Stem)
	copy(j.letters[j.stem:], w.Loop)
	for i, x := range j.terms {
		later := x.endless()
		for at := range j.backwards() {
			later = j.laws[i](at, later)
			j.rows[i][at] = later
		}
	}
}

// backwards yields the positions of the Loop from the last one to the first one, twice, and then those of the Stem. What is true at the first position of the Loop is known after one pass, and so the second one begins with what is true behind the last position.
func (j *judge) backwards() iter.Seq[int] {
	return func(yield func(int) bool) {
		for range 2 {
			for at := len(j.letters) - 1; at >= j.stem; at-- {
				if !yield(at) {
					return
				}
			}
		}
		for at := j.stem - 1; at >= 0; at-- {
			if !yield(at) {
				return
			}
		}
	}
}

// endless reports whether the term is true if what it waits for never comes; the first pass along the Loop begins with that.
func (x term) endless() bool {
	return x.op == api.Always || x.op == api.Release || x.op == api.Weak
}

// lawOf returns the law of a term whose arguments have rows already.
func (j *judge) lawOf(x term) law {
	g, h := j.argument(x, 0), j.argument(x, 1)
	switch x.op {
	case api.True:
		return func(int, bool) bool { return true }
	case api.Var:
		return func(at int, _ bool) bool { return j.letters[at]>>x.prop&1 == 1 }
	case api.Not:
		return func(at int, _ bool) bool { return !g[at] }
	case api.And:
		return func(at int, _ bool) bool { return g[at] && h[at] }
	case api.Or:
		return func(at int, _ bool) bool { return g[at] || h[at] }
	case api.Implies:
		return func(at int, _ bool) bool { return !g[at] || h[at] }
	case api.Iff:
		return func(at int, _ bool) bool { return g[at] == h[at] }
	case api.Next:
		return func(at int, _ bool) bool { return g[j.after(at)] }
	case api.Finally:
		return func(at int, later bool) bool { return g[at] || later }
	case api.Always:
		return func(at int, later bool) bool { return g[at] && later }
	case api.Until, api.Weak:
		return func(at int, later bool) bool { return h[at] || g[at] && later }
	case api.Release:
		return func(at int, later bool) bool { return h[at] && (g[at] || later) }
	}
	return func(int, bool) bool { return false }
}

// argument returns the row of an argument, or nil if there is none.
func (j *judge) argument(x term, i int) []bool {
	if i >= len(x.args) {
		return nil
	}
	return j.rows[x.args[i]]
}

// after returns the position behind at.
func (j *judge) after(at int) int {
	if at+1 == len(j.letters) {
		return j.stem
	}
	return at + 1
}
