package game

import (
	"slices"

	"lodesman/api"
	"lodesman/graph"
)

// Play returns the play from a position in which each position is left by its choice, and its winner.
func Play(g api.Game, choices []int, from int) (stem, loop []int, winner int, e api.Errno) {
	if !Valid(g) {
		return nil, nil, 0, api.ErrArg
	}
	if len(choices) != len(g.Next) {
		return nil, nil, 0, api.ErrDim
	}
	if from < 0 || from >= len(g.Next) {
		return nil, nil, 0, api.ErrRange
	}
	for v, w := range choices {
		if !slices.Contains(g.Next[v], w) {
			return nil, nil, 0, api.ErrRange
		}
	}
	stem, loop = followed(choices, from)
	return stem, loop, winnerOf(g, loop), api.OK
}

// followed returns the positions before the first one that occurs twice, and those from it on.
func followed(choices []int, from int) (stem, loop []int) {
	var path []int
	place := slices.Repeat([]int{none}, len(choices)) // for each position its place in the path
	at := from
follow:
	for {
		switch place[at] {
		case none:
			place[at] = len(path)
			path = append(path, at)
			at = choices[at]
		default:
			break follow
		}
	}
	return slices.Clone(path[:place[at]]), slices.Clone(path[place[at]:])
}

// winnerOf returns who wins a play that goes round in a loop.
func winnerOf(g api.Game, loop []int) int { return top(g, loop) % 2 }

// top returns the greatest priority of some positions.
func top(g api.Game, positions []int) int {
	most := none
	for _, v := range positions {
		most = max(most, g.Priority[v])
	}
	return most
}

// One returns for each position whether player p wins from it, if the other player has no choices.
func One(g api.Game, p int) ([]bool, api.Errno) {
	if !Valid(g) {
		return nil, api.ErrArg
	}
	if !isPlayer(p) {
		return nil, api.ErrRange
	}
	for v, next := range g.Next {
		if g.Owner[v] != p && len(next) > 1 {
			return nil, api.ErrKind
		}
	}
	c := circles{Game: g, player: p, splits: graph.NewSplitter(len(g.Next)), good: make([]bool, len(g.Next))}
	c.find(graph.UpTo(len(g.Next)))
	wins := make([]bool, len(g.Next))
	for v, n := range distances(g, p, c.good) {
		wins[v] = n != none
	}
	return wins, api.OK
}

// circles finds the positions on circles that a player wins.
type circles struct {
	api.Game
	player int
	splits *graph.Splitter
	good   []bool // the positions that have been found
}

// find looks for circles of some positions alone. The greatest priority of a strongly connected part tells who wins the circle through all of its positions; if it is the other player, all circles without that priority are left.
func (c *circles) find(positions []int) {
	degree := func(v int) int { return len(c.Next[v]) }
	for _, part := range c.splits.Split(positions, degree, func(v, k int) int { return c.Next[v][k] }) {
		most := top(c.Game, part)
		switch {
		case len(part) == 1 && !slices.Contains(c.Next[part[0]], part[0]):
		case most%2 == c.player:
			for _, v := range part {
				c.good[v] = true
			}
		default:
			c.find(slices.DeleteFunc(part, func(v int) bool { return c.Priority[v] == most }))
		}
	}
}
