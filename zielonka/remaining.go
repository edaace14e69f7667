package zielonka

import (
	"iter"
	"slices"
)

// remaining is a set of positions from which some are removed and restored again. They are linked in a ring in increasing order, so that a small set is processed quickly, however many positions the game has. The position whose number is the number of positions is the anchor of the ring.
type remaining struct {
	has         []bool
	after, last []int // for each position in the set the next one and the one before it
}

func newRemaining(keep []bool) *remaining {
	n := len(keep)
	r := &remaining{has: slices.Clone(keep), after: make([]int, n+1), last: make([]int, n+1)}
	at := n
	for v, is := range keep {
		if is {
			r.after[at], r.last[v] = v, at
			at = v
		}
	}
	r.after[at], r.last[n] = n, at
	return r
}

func (r *remaining) isEmpty() bool { return r.after[len(r.has)] == len(r.has) }

// all yields the positions in increasing order.
func (r *remaining) all() iter.Seq[int] {
	return func(yield func(v int) bool) {
		anchor := len(r.has)
		for v := r.after[anchor]; v != anchor; v = r.after[v] {
			if !yield(v) {
				return
			}
		}
	}
}

// remove takes positions out of the set.
func (r *remaining) remove(list []int) {
	for _, v := range list {
		r.has[v] = false
		last, after := r.last[v], r.after[v]
		r.after[last], r.last[after] = after, last
	}
}

// restore puts the positions back that have been removed last: each one still knows its neighbours, which are the same again once all that were removed after it are back.
func (r *remaining) restore(list []int) {
	for _, v := range slices.Backward(list) {
		r.has[v] = true
		last, after := r.last[v], r.after[v]
		r.after[last], r.last[after] = v, v
	}
}
