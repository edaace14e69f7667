package index

import (
	"math/bits"

	"lodesman/api"
)

// acceptance tells which runs are accepted. It is all, some, highest or opposite.
type acceptance any

type (
	all      struct{ marks int }       // all marks have to be met infinitely often
	some     struct{ pairs int }       // of some pair of marks only the second one has to be met infinitely often
	highest  struct{}                  // the greatest mark that is met infinitely often has to be even
	opposite struct{ rule acceptance } // the runs that are accepted otherwise
)

// order is a permutation of pairs of marks, and zeros behind it. The pairs whose first marks have not been met for the longest time come last.
type order [api.MaxMarks / 2]int8

// memory is what has to be known of the marks that have been met.
type memory struct {
	level int // how many marks, one after the other, have been met since all were
	order order
}

// acceptanceOf returns what the kind of a means.
func acceptanceOf(a api.Automaton) acceptance {
	switch a.Kind {
	case api.Buchi, api.General:
		return all{a.Marks}
	case api.CoBuchi:
		return opposite{all{a.Marks}}
	case api.Rabin:
		return some{a.Marks / 2}
	case api.Streett:
		return opposite{some{a.Marks / 2}}
	}
	return highest{}
}

// first returns the memory before any mark has been met.
func first(rule acceptance) memory {
	var m memory
	switch r := rule.(type) {
	case some:
		for i := range r.pairs {
			m.order[i] = int8(i)
		}
	case opposite:
		return first(r.rule)
	}
	return m
}

// useful returns which marks have to be looked at while no others than these are met: not those of a condition that fails anyway.
func useful(rule acceptance, marks int) int {
	switch r := rule.(type) {
	case all:
		if marks != 1<<r.marks-1 {
			return 0
		}
	case some:
		for i := range r.pairs {
			if marks>>(2*i+1)&1 == 0 {
				marks &^= 1 << (2 * i)
			}
		}
	case opposite:
		return useful(r.rule, marks)
	}
	return marks
}

// meet returns the memory behind an edge with these marks, and the edge's mark in an automaton of Kind Parity.
func meet(rule acceptance, m memory, marks int) (memory, int) {
	switch r := rule.(type) {
	case all:
		return r.meet(m, marks)
	case some:
		return r.meet(m, marks)
	case opposite:
		m, rank := meet(r.rule, m, marks)
		return m, rank + 1
	}
	return m, greatest(marks)
}

func (r all) meet(m memory, marks int) (memory, int) {
	for m.level < r.marks && marks>>m.level&1 == 1 {
		m.level++
	}
	if m.level < r.marks {
		return m, none
	}
	m.level = 0
	return m, 0
}

// meet moves the pairs whose first marks are met to the front. A pair of which only the second mark is met infinitely often stays behind all pairs that are moved again and again. Every other pair is moved infinitely often or causes a mark only finitely often, so that the greatest place of a mark tells whether the run is accepted.
func (r some) meet(m memory, marks int) (memory, int) {
	var moved, kept []int8
	rank := none
	for i, pair := range m.order[:r.pairs] {
		met := marks >> (2 * pair) & 3
		if met&1 == 1 {
			moved = append(moved, pair)
			rank = 2*i + 1
			continue
		}
		kept = append(kept, pair)
		if met == 2 {
			rank = 2 * i
		}
	}
	copy(m.order[:], append(moved, kept...))
	return m, rank
}

// greatest returns the greatest mark of a set, or none.
func greatest(marks int) int { return bits.Len(uint(marks)) - 1 }
