package member

import "lodesman/api"

// live reports for each state whether a path leads from it to a region with an accepted loop.
func live(a api.Automaton) []bool {
	is := make([]bool, a.States)
	var waiting []int
	meet := func(state int) {
		if !is[state] {
			is[state] = true
			waiting = append(waiting, state)
		}
	}
	s := newSearch(newDiagram(a))
	for r := range s.accepted(states(a), goalsOf(conditionOf(a), firstMark)) {
		for _, v := range r.nodes {
			meet(v)
		}
	}
	before := incoming(a)
	for at := 0; at < len(waiting); at++ {
		for _, v := range before[waiting[at]] {
			meet(v)
		}
	}
	return is
}

// states returns the list of all states.
func states(a api.Automaton) []int {
	list := make([]int, a.States)
	for s := range list {
		list[s] = s
	}
	return list
}

// incoming returns for each state the states that have an edge to it.
func incoming(a api.Automaton) [][]int {
	list := make([][]int, a.States)
	for _, e := range a.Edges {
		list[e.To] = append(list[e.To], e.From)
	}
	return list
}
