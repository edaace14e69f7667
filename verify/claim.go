package verify

import (
	"slices"

	"lodesman/api"
	"lodesman/graph"
)

const none = -1

// claim is a game with a claimed solution.
type claim struct {
	api.Game
	api.Region
}

// violation is the error that a claim is not correct.
type violation struct{ play Play }

// Error is the text of the error.
func (x violation) Error() string { return "there is a counterplay" }

// isClaim reports whether r has the form of a claim about g.
func isClaim(g api.Game, r api.Region) bool {
	if len(r.Winner) != len(g.Next) || len(r.Choice) != len(g.Next) {
		return false
	}
	for v, player := range r.Winner {
		w := r.Choice[v]
		switch {
		case player != 0 && player != 1:
			return false
		case g.Owner[v] == player && !slices.Contains(g.Next[v], w), g.Owner[v] != player && w != none:
			return false
		}
	}
	return true
}

// moves returns the successors for which v can be left if its claimed winner follows the claim.
func (c claim) moves(v int) []int {
	if c.Owner[v] == c.Winner[v] {
		return c.Choice[v : v+1]
	}
	return c.Next[v]
}

// examine returns a violation if the claim is not correct.
func (c claim) examine() error {
	for v, player := range c.Winner {
		for _, w := range c.moves(v) {
			if c.Winner[w] != player {
				return violation{c.leaving(v, w)}
			}
		}
	}
	for player := range 2 {
		if loop := c.lost(player); len(loop) > 0 {
			return violation{playOf(loop)}
		}
	}
	return nil
}

// leaving returns a play that goes from v to a position with another winner. What comes behind does not matter, but the winner of v goes on to follow the claim.
func (c claim) leaving(v, w int) Play {
	choices := make([]int, len(c.Next))
	for u, next := range c.Next {
		choices[u] = next[0]
		if c.Winner[u] == c.Winner[v] {
			choices[u] = c.moves(u)[0]
		}
	}
	rest := followed(c.Game, choices, w)
	return playOf(rest.Loop, []int{v}, rest.Stem)
}

// lost returns a circle of positions that a player is claimed to win and on which the other player wins, if there is one: for each priority of that player the positions with no greater ones are searched. No move leaves what the player is claimed to win.
func (c claim) lost(player int) []int {
	splits := graph.NewSplitter(len(c.Next))
	degree := func(v int) int { return len(c.moves(v)) }
	next := func(v, k int) int { return c.moves(v)[k] }
	for q := 1 - player; q <= api.MaxPriority; q += 2 {
		if !slices.Contains(c.Priority, q) {
			continue
		}
		other := func(v int) bool { return c.Winner[v] != player || c.Priority[v] > q }
		parts := splits.Split(slices.DeleteFunc(graph.UpTo(len(c.Next)), other), degree, next)
		number := graph.Numbers(len(c.Next), parts)
		for k, part := range parts {
			inside := func(v int) bool { return number[v] == k && !other(v) }
			at := slices.IndexFunc(part, func(v int) bool { return c.Priority[v] == q })
			if at == none {
				continue
			}
			if loop := c.circle(part[at], inside); len(loop) > 0 {
				return loop
			}
		}
	}
	return nil
}

// place is a position of a search, and which of its moves is to be tried next.
type place struct{ position, move int }

// circle returns a circle through a position, of which the others are inside a set, if there is one.
func (c claim) circle(start int, inside func(v int) bool) []int {
	path := []place{{position: start}}
	met := map[int]bool{}
search:
	for len(path) > 0 {
		top := &path[len(path)-1]
		moves := c.moves(top.position)
		if top.move == len(moves) {
			path = path[:len(path)-1]
			continue
		}
		w := moves[top.move]
		top.move++
		switch {
		case w == start:
			break search
		case inside(w) && !met[w]:
			met[w] = true
			path = append(path, place{position: w})
		}
	}
	var loop []int
	for _, x := range path {
		loop = append(loop, x.position)
	}
	return loop
}

// isBrokenBy reports whether a play is a counterplay.
func (c claim) isBrokenBy(p Play) bool {
	player := c.Winner[p.first()]
	left := false
	for v, w := range p.moves() {
		if c.Winner[v] != player {
			left = true
		} else if c.Owner[v] == player && c.Choice[v] != w {
			return false
		}
	}
	return left || p.winner(c.Game) != player
}
