package improve

import (
	"cmp"
	"slices"

	"lodesman/api"
	"lodesman/graph"
)

// climb makes a strategy of player 0 better and better.
//
// Suppose that player 0 may end a play at any time. The value of a play that ends is a list of numbers: for each priority, from the greatest on, how many positions with it have been met, negative if it is odd. Lists are compared lexicographically. Player 0 wants a great value, player 1 a small one, and to win is worth more than every value. What the positions of a circle add to a value is positive if player 0 wins the circle, and negative otherwise.
//
// The value of a position is what player 0 can ensure from there. At first that is a list of 0, since all plays end at once, except where the strategy wins. A move improves the strategy if it makes the value of its position no smaller. On a circle of such moves, what the positions add cannot be negative, so player 0 wins a play in which it never needs to end: these positions are won.
//
// If nothing can be improved, player 1 wins what is not won: if it always goes to the smallest value, what the positions on a circle add cannot be positive.
type climb struct {
	api.Game
	before [][]int // for each position those of which it is a successor
	place  []int   // for each position the place of its priority in a value
	won    []bool  // the positions from which the strategy wins
	choice []int   // the strategy; at positions that are not won it is the one that there was before
	value  [][]int // of the positions that are not won
}

// climbed returns the best strategy, given one and where it wins.
func climbed(g api.Game, choice []int, won []bool) *climb {
	c := &climb{
		Game:   g,
		before: graph.Before(g.Next),
		place:  make([]int, len(g.Next)),
		won:    slices.Clone(won),
		choice: slices.Clone(choice),
	}
	priorities := slices.Compact(slices.Sorted(slices.Values(g.Priority)))
	slices.Reverse(priorities)
	for v, q := range g.Priority {
		c.place[v] = slices.Index(priorities, q)
	}
	c.value = c.zeros(len(priorities))
	c.run()
	return c
}

// zeros returns a list of 0 for each position.
func (c *climb) zeros(length int) [][]int {
	lists := make([][]int, len(c.Next))
	for v := range lists {
		lists[v] = make([]int, length)
	}
	return lists
}

// run improves the strategy until nothing can be improved: by raising values one by one, and where that would go on and on, by steps. It ends, because the values behind a step are those of one choice of moves and ends, no value becomes smaller, and each step makes one greater.
func (c *climb) run() {
	r := newRaising(c)
	left := r.raise(graph.UpTo(len(c.Next)))
	if len(left) == 0 {
		return
	}
	for s := newStep(c); len(left) > 0; {
		left = r.raise(s.take(left))
	}
}

// weight is what a position adds to its place in a value.
func (c *climb) weight(v int) int { return 1 - c.Priority[v]%2*2 }

// compare compares the value that v has if w comes next with the one that it has now.
func (c *climb) compare(v, w int) int {
	now := c.value[v]
	for i, x := range c.value[w] {
		if i == c.place[v] {
			x += c.weight(v)
		}
		if d := cmp.Compare(x, now[i]); d != 0 {
			return d
		}
	}
	return 0
}

// raises reports whether v is worth more if w comes next.
func (c *climb) raises(v, w int) bool { return c.won[w] || c.compare(v, w) > 0 }

// keeps reports whether v is worth no less if w comes next.
func (c *climb) keeps(v, w int) bool { return c.won[w] || c.compare(v, w) >= 0 }

// less reports whether w is worth more than v.
func (c *climb) less(v, w int) bool {
	if c.won[v] || c.won[w] {
		return !c.won[v]
	}
	return slices.Compare(c.value[v], c.value[w]) < 0
}

// best returns the successor that the owner of v likes best.
func (c *climb) best(v int) int {
	best := c.Next[v][0]
	for _, w := range c.Next[v] {
		worse, better := best, w
		if c.Owner[v] == 1 {
			worse, better = w, best
		}
		if c.less(worse, better) {
			best = w
		}
	}
	return best
}

// raisedBy returns the positions that may be worth more because v is.
func (c *climb) raisedBy(v int) []int {
	var list []int
	for _, u := range c.before[v] {
		if !c.won[u] && c.raises(u, v) {
			list = append(list, u)
		}
	}
	return list
}

// win notes that v is won if player 0 goes on to w.
func (c *climb) win(v, w int) {
	c.won[v] = true
	if c.Owner[v] == 0 {
		c.choice[v] = w
	}
}

// region returns the solution, if nothing can be improved.
func (c *climb) region() api.Region {
	r := api.Region{Winner: make([]int, len(c.Next)), Choice: slices.Repeat([]int{none}, len(c.Next))}
	for v, won := range c.won {
		if !won {
			r.Winner[v] = 1
		}
		switch {
		case c.Owner[v] != r.Winner[v]:
		case won:
			r.Choice[v] = c.choice[v]
		default:
			r.Choice[v] = c.best(v)
		}
	}
	return r
}
