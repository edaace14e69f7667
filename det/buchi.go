package det

import (
	"slices"

	"lodesman/api"
	"lodesman/graph"
	"lodesman/letters"
)

// partsOf returns for each state the number of its strongly connected part, where only some edges count. No part is reachable from one with a smaller number.
func partsOf(a api.Automaton, counts func(e api.Edge) bool) []int {
	out := make([][]int, a.States)
	for _, e := range a.Edges {
		if counts(e) {
			out[e.From] = append(out[e.From], e.To)
		}
	}
	return graph.Parts(out)
}

// clarified returns an automaton of Kind Buchi that has the mark on no edge between two parts, and on all edges of a part all of whose circles have it. It accepts the same runs, and its trees are smaller.
func clarified(a api.Automaton, part []int) api.Automaton {
	inner := func(e api.Edge) bool { return part[e.From] == part[e.To] }
	plain := func(e api.Edge) bool { return inner(e) && e.Marks == 0 }
	small := partsOf(a, plain)
	evades := map[int]bool{} // whether a run can stay in a part without the mark
	for _, e := range a.Edges {
		if plain(e) && small[e.From] == small[e.To] {
			evades[part[e.From]] = true
		}
	}
	a.Edges = slices.Clone(a.Edges)
	for i, e := range a.Edges {
		if !inner(e) {
			a.Edges[i].Marks = 0
		} else if !evades[part[e.From]] {
			a.Edges[i].Marks = 1
		}
	}
	return a
}

// mostComparisons is how many pairs of edges are looked at to find stronger states. Without these, trees are larger.
const mostComparisons = 1 << 23

// simulation tells which states can do all that others can, step by step, and meet the mark whenever these do.
type simulation struct {
	out   [][]ray
	above [][]bool // for each state those that can do all that it can
	steps int      // that are left
}

// ray is an edge as its state sees it.
type ray struct {
	to, marks int
	letters   letters.Set
}

// strongerOf returns for each state stronger ones, none of which is in a part with a greater number: so a run that is replaced by that of a stronger state again and again still stays in one part at last.
func strongerOf(a api.Automaton, part []int) [][]int {
	list := make([][]int, a.States)
	m, ok := simulated(a)
	if !ok {
		return list
	}
	for s, row := range m.above {
		for t, is := range row {
			equal := m.above[t][s] && part[t] == part[s]
			if is && s != t && part[t] <= part[s] && !(equal && t > s) {
				list[s] = append(list[s], t)
			}
		}
	}
	return list
}

// simulated compares all states, or returns false if that takes too many steps.
func simulated(a api.Automaton) (*simulation, bool) {
	m := &simulation{out: make([][]ray, a.States), steps: mostComparisons}
	if a.States*a.States > m.steps {
		return nil, false
	}
	for _, e := range a.Edges {
		m.out[e.From] = append(m.out[e.From], ray{to: e.To, marks: e.Marks, letters: letters.Of(e, a.Props)})
	}
	for range a.States {
		m.above = append(m.above, slices.Repeat([]bool{true}, a.States))
	}
	for m.sweep() {
		if m.steps < 0 {
			return nil, false
		}
	}
	return m, m.steps >= 0
}

// sweep looks at all pairs of states and reports whether one of them has changed.
func (m *simulation) sweep() bool {
	changed := false
	for low, row := range m.above {
		for high, is := range row {
			if !is || m.steps < 0 {
				continue
			}
			m.steps -= 1 + len(m.out[low])*len(m.out[high])
			if !m.keepsUp(high, low) {
				row[high], changed = false, true
			}
		}
	}
	return changed
}

// keepsUp reports whether for each edge of the lower state, and each of its letters, the higher state has one that leads to a state above, with the mark if the other has it.
func (m *simulation) keepsUp(high, low int) bool {
	for _, x := range m.out[low] {
		left := x.letters
		for _, y := range m.out[high] {
			if m.above[x.to][y.to] && y.marks >= x.marks {
				left &^= y.letters
			}
		}
		if left != 0 {
			return false
		}
	}
	return true
}
