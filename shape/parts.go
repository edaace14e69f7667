package shape

import "lodesman/api"

// parts returns for each state the number of its strongly connected part.
func parts(a api.Automaton) []int {
	part, order, low := make([]int, a.States), make([]int, a.States), make([]int, a.States)
	out := outgoing(a)
	var open []int
	met, closed := 0, 0
	var visit func(s int)
	visit = func(s int) {
		met++
		order[s], low[s] = met, met
		open = append(open, s)
		for _, e := range out[s] {
			switch {
			case order[e.To] == 0:
				visit(e.To)
				low[s] = min(low[s], low[e.To])
			case part[e.To] == 0:
				low[s] = min(low[s], order[e.To])
			}
		}
		if low[s] < order[s] {
			return
		}
		closed++
		for part[s] == 0 {
			part[open[len(open)-1]] = closed
			open = open[:len(open)-1]
		}
	}
	for s := range out {
		if order[s] == 0 {
			visit(s)
		}
	}
	return part
}

// recurrent returns for each edge whether a run can take it infinitely often.
func recurrent(a api.Automaton) []bool {
	part := parts(a)
	is := make([]bool, len(a.Edges))
	for i, e := range a.Edges {
		is[i] = part[e.From] == part[e.To]
	}
	return is
}

// promising returns, for an automaton of Kind Buchi or General, for each edge whether an accepted run can take it infinitely often.
func promising(a api.Automaton) []bool {
	part, is := parts(a), recurrent(a)
	met := make([]int, a.States+1) // the marks in each part
	for i, e := range a.Edges {
		if is[i] {
			met[part[e.From]] |= e.Marks
		}
	}
	for i, e := range a.Edges {
		is[i] = is[i] && met[part[e.From]] == 1<<a.Marks-1
	}
	return is
}
