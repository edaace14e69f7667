package aut

import (
	"iter"

	"lodesman/api"
	"lodesman/letters"
)

// walker follows the run of a deterministic automaton.
type walker struct {
	edges []api.Edge
	out   [][]int // for each state the indices of its edges
	state int
	dead  bool
}

func newWalker(a api.Automaton) *walker {
	return &walker{edges: a.Edges, out: outgoing(a), state: a.Start[0]}
}

// outgoing returns for each state the indices of its edges.
func outgoing(a api.Automaton) [][]int {
	out := make([][]int, a.States)
	for i, e := range a.Edges {
		out[e.From] = append(out[e.From], i)
	}
	return out
}

// walk returns the marks that the run on w meets infinitely often, or true if there is no run.
func (r *walker) walk(w api.Word) (inf int, dead bool) {
	r.read(w.Stem)
	visited := map[int]int{} // for each state at the beginning of the Loop, in which round the run was there
	var rounds []int         // the marks of each round
	for !r.dead {
		if first, again := visited[r.state]; again {
			return union(rounds[first:]), false
		}
		visited[r.state] = len(rounds)
		marks := r.read(w.Loop)
		rounds = append(rounds, marks)
	}
	return 0, true
}

// read follows the letters of a list and returns the marks that are met.
func (r *walker) read(list []int) int {
	marks := 0
	for _, l := range list {
		marks |= r.step(l)
	}
	return marks
}

// step follows the edge with that letter and returns its marks; without such an edge the run ends.
func (r *walker) step(letter int) int {
	if r.dead {
		return 0
	}
	for _, i := range r.out[r.state] {
		if e := r.edges[i]; letters.Has(e, letter) {
			r.state = e.To
			return e.Marks
		}
	}
	r.dead = true
	return 0
}

func union(sets []int) int {
	all := 0
	for _, set := range sets {
		all |= set
	}
	return all
}

// reachable yields each reachable state once.
func reachable(a api.Automaton) iter.Seq[int] {
	return func(yield func(int) bool) {
		out := outgoing(a)
		seen := make([]bool, a.States)
		var waiting []int
		meet := func(s int) {
			if !seen[s] {
				seen[s] = true
				waiting = append(waiting, s)
			}
		}
		for _, s := range a.Start {
			meet(s)
		}
		for at := 0; at < len(waiting); at++ {
			if !yield(waiting[at]) {
				return
			}
			for _, i := range out[waiting[at]] {
				meet(a.Edges[i].To)
			}
		}
	}
}
