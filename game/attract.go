package game

import (
	"iter"
	"slices"

	"lodesman/api"
)

// Attract returns the attractor of a set: for each position the number of moves to the set, and the choices of player p.
func Attract(g api.Game, p int, to []bool) (steps, choice []int, e api.Errno) {
	if !Valid(g) {
		return nil, nil, api.ErrArg
	}
	if !isPlayer(p) {
		return nil, nil, api.ErrRange
	}
	if len(to) != len(g.Next) {
		return nil, nil, api.ErrDim
	}
	steps = distances(g, p, to)
	choice = slices.Repeat([]int{none}, len(steps))
	for v, next := range g.Next {
		if g.Owner[v] == p && steps[v] > 0 {
			k := slices.IndexFunc(next, func(w int) bool { return steps[w] == steps[v]-1 })
			choice[v] = next[k]
		}
	}
	return steps, choice, api.OK
}

// queue is a list of positions that are to be processed. It may grow meanwhile.
type queue struct{ list []int }

func (q *queue) add(v int) { q.list = append(q.list, v) }

// all yields the positions in the order in which they are added.
func (q *queue) all() iter.Seq[int] {
	return func(yield func(v int) bool) {
		for i := 0; i < len(q.list); i++ {
			if !yield(q.list[i]) {
				return
			}
		}
	}
}

// distances returns for each position the number of moves within which player p can force a play into a set, or none. Positions are found in the order of these numbers: one of the other player is found from the last of its successors.
func distances(g api.Game, p int, to []bool) []int {
	steps, missing, before := make([]int, len(to)), make([]int, len(to)), predecessors(g)
	var q queue
	for v, is := range to {
		steps[v], missing[v] = none, 1
		if g.Owner[v] != p {
			missing[v] = len(g.Next[v])
		}
		if is {
			steps[v] = 0
			q.add(v)
		}
	}
	for w := range q.all() {
		for _, v := range before[w] {
			missing[v]--
			if missing[v] == 0 && steps[v] == none {
				steps[v] = steps[w] + 1
				q.add(v)
			}
		}
	}
	return steps
}

// predecessors returns for each position those of which it is a successor.
func predecessors(g api.Game) [][]int {
	before := make([][]int, len(g.Next))
	for v, next := range g.Next {
		for _, w := range next {
			before[w] = append(before[w], v)
		}
	}
	return before
}
