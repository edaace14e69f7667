package graph

import "iter"

// Queue is a list of nodes that are to be processed. It may grow meanwhile.
type Queue []int

// Add puts a node at the end of the queue.
func (q *Queue) Add(v int) { *q = append(*q, v) }

// All yields the nodes in the order in which they are added.
func (q *Queue) All() iter.Seq[int] {
	return func(yield func(v int) bool) {
		for i := 0; i < len(*q); i++ {
			if !yield((*q)[i]) {
				return
			}
		}
	}
}

// Before returns for each node those that have an arc to it, given for each node those to which it has arcs.
func Before(next [][]int) [][]int {
	before := make([][]int, len(next))
	for v, list := range next {
		for _, w := range list {
			before[w] = append(before[w], v)
		}
	}
	return before
}
