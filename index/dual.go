package index

import (
	"lodesman/api"
	"lodesman/aut"
)

// Dual returns the automaton that accepts the runs that a does not accept.
func Dual(a api.Automaton) (api.Automaton, api.Errno) {
	if !aut.Valid(a) {
		return api.Automaton{}, api.ErrArg
	}
	d := copied(a)
	switch a.Kind {
	case api.Buchi:
		d.Kind = api.CoBuchi
	case api.CoBuchi:
		d.Kind = api.Buchi
	case api.Rabin:
		d.Kind = api.Streett
	case api.Streett:
		d.Kind = api.Rabin
	case api.Parity:
		d.Marks = a.Marks + 1
		change(d.Edges, func(marks int) int { return marks<<1 | 1 })
	case api.General:
		d.Kind, d.Marks = api.Rabin, 2*a.Marks
		change(d.Edges, func(marks int) int { return pairs(a.Marks, marks) })
	}
	if d.Marks > api.MaxMarks {
		return api.Automaton{}, api.ErrFull
	}
	return d, api.OK
}

// change replaces the marks of all edges.
func change(edges []api.Edge, by func(marks int) int) {
	for i := range edges {
		edges[i].Marks = by(edges[i].Marks)
	}
}

// pairs returns the marks of an edge whose pairs tell which of count marks it had: a run that misses one of these meets only the second mark of its pair.
func pairs(count, marks int) int {
	set := 0
	for m := range count {
		set |= (2 | marks>>m&1) << (2 * m)
	}
	return set
}
