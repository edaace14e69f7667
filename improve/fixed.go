package improve

import (
	"iter"
	"slices"

	"lodesman/api"
	"lodesman/game"
	"lodesman/graph"
)

// fixed is the game that remains when a player follows a full strategy: only the other player has choices.
type fixed struct {
	api.Game
	player int
}

// fix returns the game that remains, or the first error of what it is given.
func fix(g api.Game, player int, choice []int) (fixed, api.Errno) {
	if !game.Valid(g) {
		return fixed{}, api.ErrArg
	}
	if !isPlayer(player) {
		return fixed{}, api.ErrRange
	}
	if !isFull(g, player, choice) {
		return fixed{}, api.ErrForm
	}
	h, e := game.Trade(g, choice, player)
	return fixed{Game: h, player: player}, e
}

// isFull reports whether choice is a full strategy of a player.
func isFull(g api.Game, player int, choice []int) bool {
	if len(choice) != len(g.Next) {
		return false
	}
	for v, w := range choice {
		if g.Owner[v] == player && !slices.Contains(g.Next[v], w) || g.Owner[v] != player && w != none {
			return false
		}
	}
	return true
}

// wins reports for each position whether the strategy wins from there: whether no circle that the other player wins can be reached.
func (f fixed) wins() []bool {
	wins := slices.Repeat([]bool{true}, len(f.Next))
	var lost graph.Queue
	lose := func(v int) {
		if wins[v] {
			wins[v] = false
			lost.Add(v)
		}
	}
	for top := range f.losses(func(int) bool { return true }) {
		lose(top)
	}
	before := graph.Before(f.Next)
	for w := range lost.All() {
		for _, v := range before[w] {
			lose(v)
		}
	}
	return wins
}

// losses yields positions that have the greatest priority on a circle of selected positions which the other player wins. From every such circle, one of them can be reached.
//
// The greatest priority of a strongly connected part tells who wins the circle through all of its positions. If it is the player with the strategy, all circles without that priority are left.
func (f fixed) losses(selected func(v int) bool) iter.Seq[int] {
	return func(yield func(top int) bool) {
		splits := graph.NewSplitter(len(f.Next))
		degree := func(v int) int { return len(f.Next[v]) }
		next := func(v, k int) int { return f.Next[v][k] }
		pending := [][]int{slices.DeleteFunc(graph.UpTo(len(f.Next)), func(v int) bool { return !selected(v) })}
		for len(pending) > 0 {
			last := len(pending) - 1
			positions := pending[last]
			pending = pending[:last]
			for _, part := range splits.Split(positions, degree, next) {
				top := slices.MaxFunc(part, func(v, w int) int { return f.Priority[v] - f.Priority[w] })
				most := f.Priority[top]
				switch {
				case len(part) == 1 && !slices.Contains(f.Next[top], top):
				case most%2 == f.player:
					pending = append(pending, slices.DeleteFunc(part, func(v int) bool { return f.Priority[v] == most }))
				case !yield(top):
					return
				}
			}
		}
	}
}

// reachable reports for each position whether a play from v can reach it.
func (f fixed) reachable(v int) []bool {
	reached := make([]bool, len(f.Next))
	reached[v] = true
	q := graph.Queue{v}
	for w := range q.All() {
		for _, x := range f.Next[w] {
			if !reached[x] {
				reached[x] = true
				q.Add(x)
			}
		}
	}
	return reached
}

// way returns the positions of a shortest way from v to the position to, without that one.
func (f fixed) way(v, to int) []int {
	path := f.path(v, func(w int) bool { return w == to }, func(int) bool { return true })
	return path[:len(path)-1]
}

// circle returns the positions of a shortest circle on which none has a greater priority than the first one, top.
func (f fixed) circle(top int) []int {
	closes := func(v int) bool { return slices.Contains(f.Next[v], top) }
	return f.path(top, closes, func(v int) bool { return f.Priority[v] <= f.Priority[top] })
}

// path returns the positions of a shortest path through selected positions from one position to a goal.
func (f fixed) path(from int, goal, selected func(v int) bool) []int {
	last := slices.Repeat([]int{none}, len(f.Next)) // for each position that has been reached the one before it
	last[from] = from
	q := graph.Queue{from}
	for v := range q.All() {
		if goal(v) {
			path := []int{v}
			for v != from {
				v = last[v]
				path = append(path, v)
			}
			slices.Reverse(path)
			return path
		}
		for _, w := range f.Next[v] {
			if last[w] == none && selected(w) {
				last[w] = v
				q.Add(w)
			}
		}
	}
	return nil
}
