package zielonka

import (
	"slices"

	"lodesman/api"
	"lodesman/graph"
)

// board is a game of which some positions remain, and what is known of its solution.
type board struct {
	api.Game
	left    *remaining
	before  [][]int // for each position those of which it is a successor
	winner  []int
	choice  []int  // of positions that their owner wins; of others it may be a choice that has turned out to be wrong
	reached []bool // the positions of the attractor that is being computed
	escapes []int  // for each position that is not to be attracted yet, how many of its successors have not been; 0 if none has
}

func newBoard(g api.Game, keep []bool) *board {
	n := len(keep)
	nobody := slices.Repeat([]int{none}, n)
	return &board{
		Game:    g,
		left:    newRemaining(keep),
		before:  graph.Before(g.Next),
		winner:  nobody,
		choice:  slices.Clone(nobody),
		reached: make([]bool, n),
		escapes: make([]int, n),
	}
}

// strongest returns the player of the greatest priority that remains, and the positions whose priority is greater than all priorities of the other player.
func (b *board) strongest() (player int, greatest []int) {
	most := [2]int{none, none}
	for v := range b.left.all() {
		q := b.Priority[v]
		most[q%2] = max(most[q%2], q)
	}
	if most[1] > most[0] {
		player = 1
	}
	for v := range b.left.all() {
		if b.Priority[v] > most[1-player] {
			greatest = append(greatest, v)
		}
	}
	return player, greatest
}

// attract returns the positions from which a player can force a play into a set: first those of the set. It notes the player's choices.
func (b *board) attract(player int, set []int) []int {
	q := graph.Queue(slices.Clone(set))
	for _, v := range q {
		b.reached[v] = true
	}
	var hesitant []int
	for w := range q.All() {
		for _, v := range b.before[w] {
			switch {
			case !b.left.has[v] || b.reached[v]:
				continue
			case b.Owner[v] == player:
				b.choice[v] = w
			case b.escapes[v] == 0:
				b.escapes[v] = b.successors(v)
				hesitant = append(hesitant, v)
				fallthrough
			default:
				b.escapes[v]--
				if b.escapes[v] > 0 {
					continue
				}
			}
			b.reached[v] = true
			q.Add(v)
		}
	}
	for _, v := range q {
		b.reached[v] = false
	}
	for _, v := range hesitant {
		b.escapes[v] = 0
	}
	return q
}

// successors returns how many successors of a position remain.
func (b *board) successors(v int) int {
	n := 0
	for _, w := range b.Next[v] {
		if b.left.has[w] {
			n++
		}
	}
	return n
}

// won returns the remaining positions that a player has been found to win.
func (b *board) won(player int) []int {
	var list []int
	for v := range b.left.all() {
		if b.winner[v] == player {
			list = append(list, v)
		}
	}
	return list
}

// give notes that a player wins some positions.
func (b *board) give(list []int, player int) {
	for _, v := range list {
		b.winner[v] = player
	}
}

// stay chooses for some positions successors that remain.
func (b *board) stay(list []int) {
	for _, v := range list {
		k := slices.IndexFunc(b.Next[v], func(w int) bool { return b.left.has[w] })
		b.choice[v] = b.Next[v][k]
	}
}

// region returns the solution, once it is known for all positions that remain.
func (b *board) region() api.Region {
	for v, p := range b.winner {
		if b.Owner[v] != p {
			b.choice[v] = none
		}
	}
	return api.Region{Winner: b.winner, Choice: b.choice}
}
