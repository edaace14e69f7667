package shape

import "lodesman/api"

// order returns a function that reports whether marks are at least as good as others: a run stays accepted if the marks of its edges are replaced by ones that are.
func order(kind int) func(marks, others int) bool {
	const even = 0x5555555555 // the marks with even numbers
	wanted := 0
	switch kind {
	case api.Parity:
		return func(marks, others int) bool { return value(marks) >= value(others) }
	case api.Buchi, api.General:
		wanted = -1
	case api.Rabin:
		wanted = even << 1
	case api.Streett:
		wanted = even
	}
	return func(marks, others int) bool {
		return others&^marks&wanted == 0 && marks&^others&^wanted == 0
	}
}

// value orders the marks of Parity: first the odd ones, the greatest first, then none, then the even ones.
func value(marks int) int {
	m := top(marks)
	if m%2 == 0 {
		return m
	}
	return -m - 2
}

// simulation tells which states can do all that others can, step by step, with marks that are at least as good.
type simulation struct {
	out    [][]arrow
	better func(marks, others int) bool
	above  [][]bool // for each state the states that can do all that it can
}

// simulate compares all states, or returns false if that takes too many steps.
func (r *reducer) simulate() (*simulation, bool) {
	s := &simulation{out: arrows(r.Automaton), better: order(r.Kind)}
	if (len(r.Edges)+r.States)*(len(r.Edges)+r.States) > r.steps {
		return nil, false
	}
	for range r.States {
		row := make([]bool, r.States)
		for t := range row {
			row[t] = true
		}
		s.above = append(s.above, row)
	}
	for changed := true; changed; {
		changed = false
		for low, row := range s.above {
			for high, is := range row {
				if !is || low == high {
					continue
				}
				r.steps -= 1 + len(s.out[low])*len(s.out[high])
				if !s.keepsUp(high, low) {
					row[high], changed = false, true
				}
			}
		}
		if r.steps < 0 {
			return nil, false
		}
	}
	return s, true
}

// keepsUp reports whether for each edge of the lower state, and each of its letters, the higher state has one that is at least as good.
func (s *simulation) keepsUp(high, low int) bool {
	for _, e := range s.out[low] {
		left := e.letters
		for _, f := range s.out[high] {
			if s.above[e.to][f.to] && s.better(f.marks, e.marks) {
				left &^= f.letters
			}
		}
		if left != 0 {
			return false
		}
	}
	return true
}

// covers reports whether an edge is at least as good as another one from the same state.
func (s *simulation) covers(f, e arrow) bool {
	return e.letters&^f.letters == 0 && s.above[e.to][f.to] && s.better(f.marks, e.marks)
}

// fold makes one state of states that can do the same. The edges of the first of them are enough.
func (r *reducer) fold() {
	s, ok := r.simulate()
	if !ok {
		return
	}
	class := make([]int, r.States)
	for t := range class {
		class[t] = t
		for first := range t {
			if s.above[first][t] && s.above[t][first] {
				class[t] = class[first]
				break
			}
		}
	}
	r.Automaton = quotient(r.Automaton, numbered(class))
}

// prune removes edges and Start states beside which there are others that are at least as good. Of equally good ones the first one is kept.
func (r *reducer) prune() {
	s, ok := r.simulate()
	if !ok {
		return
	}
	var start []int
	for i, low := range r.Start {
		if !outdone(r.Start, i, func(high, low int) bool { return s.above[low][high] }) {
			start = append(start, low)
		}
	}
	r.Start = start
	at := make([]int, r.States) // for each state how many of its edges have been looked at
	var edges []api.Edge
	for _, e := range r.Edges {
		if !outdone(s.out[e.From], at[e.From], s.covers) {
			edges = append(edges, e)
		}
		at[e.From]++
	}
	r.Edges = edges
}

// outdone reports whether a list has an element that is better than element i, or as good and before it.
func outdone[T any](list []T, i int, covers func(high, low T) bool) bool {
	for k, x := range list {
		if k != i && covers(x, list[i]) && (k < i || !covers(list[i], x)) {
			return true
		}
	}
	return false
}
