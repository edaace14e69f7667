package prod

import (
	"slices"

	"lodesman/api"
)

// copied returns a with lists of its own.
func copied(a api.Automaton) api.Automaton {
	a.Start, a.Edges = slices.Clone(a.Start), slices.Clone(a.Edges)
	return a
}

// add adds the states and edges of a to u, which has at least as many marks. Those that a lacks are on all edges of a, so that its runs need not wait for them.
func add(u *api.Automaton, a api.Automaton) {
	missing := 1<<u.Marks - 1<<a.Marks
	for _, s := range a.Start {
		u.Start = append(u.Start, u.States+s)
	}
	for _, e := range a.Edges {
		e.From += u.States
		e.To += u.States
		e.Marks |= missing
		u.Edges = append(u.Edges, e)
	}
	u.States += a.States
}

// pairs returns how many pairs of marks a needs as an automaton of Kind Streett.
func pairs(a api.Automaton) int {
	if a.Kind == api.Streett {
		return a.Marks / 2
	}
	return a.Marks
}

// paired returns a as an automaton of Kind Streett: a mark that has to be met becomes the first one of a pair whose second one is on all edges.
func paired(a api.Automaton) api.Automaton {
	if a.Kind == api.Streett {
		return a
	}
	s := copied(a)
	s.Kind, s.Marks = api.Streett, 2*a.Marks
	for i, e := range a.Edges {
		s.Edges[i].Marks = 0
		for m := range a.Marks {
			s.Edges[i].Marks |= (2 | e.Marks>>m&1) << (2 * m)
		}
	}
	return s
}
