package game

import (
	"slices"

	"lodesman/api"
	"lodesman/graph"
)

// Attract returns the attractor of a set: for each position the number of moves to the set, and the choices of player p.
func Attract(g api.Game, p int, to []bool) (steps, choice []int, e api.Errno) {
	if !Valid(g) {
		return nil, nil, api.ErrArg
	}
	if !isPlayer(p) {
		return nil, nil, api.ErrRange
	}
	if len(to) != len(g.Next) {
		return nil, nil, api.ErrDim
	}
	steps = distances(g, p, to)
	choice = slices.Repeat([]int{none}, len(steps))
	for v, next := range g.Next {
		if g.Owner[v] == p && steps[v] > 0 {
			k := slices.IndexFunc(next, func(w int) bool { return steps[w] == steps[v]-1 })
			choice[v] = next[k]
		}
	}
	return steps, choice, api.OK
}

// distances returns for each position the number of moves within which player p can force a play into a set, or none. Positions are found in the order of these numbers: one of the other player is found from the last of its successors.
func distances(g api.Game, p int, to []bool) []int {
	steps, missing, before := make([]int, len(to)), make([]int, len(to)), graph.Before(g.Next)
	var q graph.Queue
	for v, is := range to {
		steps[v], missing[v] = none, 1
		if g.Owner[v] != p {
			missing[v] = len(g.Next[v])
		}
		if is {
			steps[v] = 0
			q.Add(v)
		}
	}
	for w := range q.All() {
		for _, v := range before[w] {
			missing[v]--
			if missing[v] == 0 && steps[v] == none {
				steps[v] = steps[w] + 1
				q.Add(v)
			}
		}
	}
	return steps
}
