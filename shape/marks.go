package shape

import (
	"cmp"
	"math/bits"

	"lodesman/api"
)

// forget removes the marks of General where no run is accepted, so that more states have the same edges.
func (r *reducer) forget() {
	if r.Kind != api.General {
		return
	}
	again, good := recurrent(r.Automaton), promising(r.Automaton)
	for i := range r.Edges {
		if again[i] && !good[i] {
			r.Edges[i].Marks = 0
		}
	}
}

// rank leaves each edge of Parity its greatest mark, and closes the gaps between the marks that are left: marks of the same parity with none of the other one between them need not be told apart, nor do odd ones below all even ones and no mark at all.
func (r *reducer) rank() {
	if r.Kind != api.Parity {
		return
	}
	var used []int
	for _, e := range r.Edges {
		used = append(used, top(e.Marks))
	}
	last := none
	ranks := map[int]int{none: none}
	for _, m := range distinct(used, cmp.Compare) {
		if (m-last)%2 != 0 {
			last++
		}
		ranks[m] = last
	}
	r.Marks = last + 1
	for i, e := range r.Edges {
		r.Edges[i].Marks = 0
		if m := ranks[top(e.Marks)]; m != none {
			r.Edges[i].Marks = 1 << m
		}
	}
}

// top returns the greatest mark, or none.
func top(marks int) int { return bits.Len(uint(marks)) - 1 }

// claims are what the marks of General, Rabin and Streett stand for. Claim i of Streett is that mark 2 i + 1, the second one, is not met infinitely often, or mark 2 i, the first one, is. Rabin accepts if one of these claims is wrong. General is like Streett, with mark i as the first one of claim i, and a second one that is on all edges.
type claims struct {
	width, count int
	void         int   // the claims that hold for each run, as bits
	follows      []int // for each claim those from which it follows for each run, as bits
}

// thin removes marks whose claims hold anyway, or follow from others.
func (r *reducer) thin() {
	c := claims{width: 2}
	switch r.Kind {
	case api.General:
		c.width = 1
	case api.Rabin, api.Streett:
	default:
		return
	}
	c.count = r.Marks / c.width
	c.compare(r.Automaton)
	r.Marks = 0
	old := make([]int, len(r.Edges))
	for i, e := range r.Edges {
		old[i], r.Edges[i].Marks = e.Marks, 0
	}
	for k := range c.count {
		if c.needless(k) {
			continue
		}
		for i, marks := range old {
			r.Edges[i].Marks |= marks >> (k * c.width) & (1<<c.width - 1) << r.Marks
		}
		r.Marks += c.width
	}
}

// compare finds out which claims are void and which follow from which.
func (c *claims) compare(a api.Automaton) {
	all := 1<<c.count - 1
	c.void = all
	c.follows = make([]int, c.count)
	for k := range c.follows {
		c.follows[k] = all
	}
	again := recurrent(a)
	for i, e := range a.Edges {
		if !again[i] {
			continue
		}
		first, second := c.split(e.Marks)
		c.void &^= second &^ first
		for k := range c.follows {
			if first>>k&1 == 0 {
				c.follows[k] &^= first
			}
			if second>>k&1 == 1 {
				c.follows[k] &= second
			}
		}
	}
}

// split returns the claims whose first mark is in the set, and those whose second one is.
func (c *claims) split(marks int) (first, second int) {
	for k := range c.count {
		first |= marks >> (k * c.width) & 1 << k
		second |= marks >> (k*c.width + 1) & 1 << k
	}
	if c.width == 1 {
		second = 1<<c.count - 1
	}
	return first, second
}

// needless reports whether a claim is void or follows from another one. Of claims that follow from each other the first one is needed.
func (c *claims) needless(k int) bool {
	for j := range c.count {
		if j != k && c.follows[k]>>j&1 == 1 && (c.follows[j]>>k&1 == 0 || j < k) {
			return true
		}
	}
	return c.void>>k&1 == 1
}
