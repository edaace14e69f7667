package measure

import (
	"cmp"
	"slices"

	"lodesman/api"
)

// scale tells what the measures of a game look like.
type scale struct {
	count []int                    // for each odd priority, from the greatest on, how many positions have it
	first [api.MaxPriority + 1]int // for each priority how many odd ones are at least that
}

func scaleOf(g api.Game) scale {
	var s scale
	var positions [api.MaxPriority + 1]int
	for _, q := range g.Priority {
		positions[q]++
	}
	for q := api.MaxPriority; q >= 0; q-- {
		if q%2 == 1 && positions[q] > 0 {
			s.count = append(s.count, positions[q])
		}
		s.first[q] = len(s.count)
	}
	return s
}

// has reports whether m is a measure.
func (s scale) has(m Measure) bool {
	if m.Top {
		return len(m.List) == 0
	}
	if len(m.List) != len(s.count) {
		return false
	}
	for i, n := range m.List {
		if n < 0 || n > s.count[i] {
			return false
		}
	}
	return true
}

// beginning returns the numbers of m that count for a position with the priority q. What is appended to them does not overwrite the others.
func (s scale) beginning(m Measure, q int) []int {
	j := s.first[q]
	return m.List[:j:j]
}

// prog returns the smallest measure that a position with the priority q needs for a successor with the measure m.
func (s scale) prog(m Measure, q int) Measure {
	if m.Top {
		return Measure{Top: true}
	}
	kept := s.beginning(m, q)
	list := slices.Concat(kept, make([]int, len(m.List)-len(kept)))
	if q%2 == 0 {
		return Measure{List: list}
	}
	for i := len(kept) - 1; i >= 0; i-- {
		if list[i] < s.count[i] {
			list[i]++
			return Measure{List: list}
		}
		list[i] = 0
	}
	return Measure{Top: true}
}

// enough reports whether m is at least prog of the measure of a successor and the priority q.
func (s scale) enough(m, successor Measure, q int) bool {
	if m.Top || successor.Top {
		return m.Top
	}
	c := compare(s.beginning(m, q), s.beginning(successor, q))
	return c > 0 || c == 0 && q%2 == 0
}

// less compares measures.
func less(a, b Measure) bool {
	if a.Top || b.Top {
		return !a.Top
	}
	return compare(a.List, b.List) < 0
}

// compare compares two lists of the same length by their first difference.
func compare[E cmp.Ordered](a, b []E) int {
	for i, x := range a {
		if c := cmp.Compare(x, b[i]); c != 0 {
			return c
		}
	}
	return 0
}
