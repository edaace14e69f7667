package shape

import (
	"slices"

	"lodesman/api"
	"lodesman/member"
)

// copied returns a with lists of its own.
func copied(a api.Automaton) api.Automaton {
	a.Start, a.Edges = slices.Clone(a.Start), slices.Clone(a.Edges)
	return a
}

// trimmed is Trim of a valid automaton.
func trimmed(a api.Automaton) api.Automaton {
	useful := reachable(a, alive(a))
	numbers := make([]int, a.States)
	kept := api.Automaton{Props: a.Props, Kind: a.Kind, Marks: a.Marks}
	for s := range numbers {
		numbers[s] = kept.States
		if useful[s] {
			kept.States++
		}
	}
	for _, s := range a.Start {
		if useful[s] {
			kept.Start = append(kept.Start, numbers[s])
		}
	}
	for _, e := range a.Edges {
		if useful[e.From] && useful[e.To] {
			e.From, e.To = numbers[e.From], numbers[e.To]
			kept.Edges = append(kept.Edges, e)
		}
	}
	return kept
}

// alive returns for each state whether it is live.
func alive(a api.Automaton) []bool {
	is, _ := member.Live(a)
	return is
}

// reachable returns for each state whether it is reachable from a Start state through states that are permitted, and permitted itself.
func reachable(a api.Automaton, permitted []bool) []bool {
	is := make([]bool, a.States)
	var waiting []int
	meet := func(s int) {
		if permitted[s] && !is[s] {
			is[s] = true
			waiting = append(waiting, s)
		}
	}
	for _, s := range a.Start {
		meet(s)
	}
	out := outgoing(a)
	for at := 0; at < len(waiting); at++ {
		for _, e := range out[waiting[at]] {
			meet(e.To)
		}
	}
	return is
}

// outgoing returns for each state its edges.
func outgoing(a api.Automaton) [][]api.Edge {
	out := make([][]api.Edge, a.States)
	for _, e := range a.Edges {
		out[e.From] = append(out[e.From], e)
	}
	return out
}
