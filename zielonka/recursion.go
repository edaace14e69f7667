package zielonka

import "lodesman/api"

// mostGames is how many games the recursion may visit.
const mostGames = 1 << 17

// counter counts the games that the recursion visits.
type counter struct{ games int }

// visit counts one more game. The limit is met deep inside the recursion, which a panic leaves at once.
func (c *counter) visit() {
	c.games++
	if c.games > mostGames {
		panic(api.ErrFull)
	}
}

// solution returns a solution of the subgame of the kept positions.
func solution(g api.Game, keep []bool) (r api.Region, e api.Errno) {
	defer func() {
		switch x := recover().(type) {
		case nil:
		case api.Errno:
			e = x
		default:
			panic(x)
		}
	}()
	b := newBoard(g, keep)
	recursion(b, &counter{})()
	return b.region(), api.OK
}

// recursion returns a function that solves the game of the positions that remain, and after which the same positions remain.
//
// The player of the greatest priority wins what the other one does not: it goes to its greatest priorities wherever it can force that, and elsewhere plays as in the game without these positions. Where the other player wins that game, it wins this one too, and wherever it can force a play to go there; without all of this, a smaller game is left. If it can force no further play there, the player of the greatest priority wins all that is left.
func recursion(b *board, visited *counter) func() {
	left := b.left
	var solve func()
	solve = func() {
		var gone []int
		for !left.isEmpty() {
			visited.visit()
			player, greatest := b.strongest()
			near := b.attract(player, greatest)
			left.remove(near)
			solve()
			lost := b.won(1 - player)
			left.restore(near)
			far := b.attract(1-player, lost)
			b.give(far, 1-player)
			left.remove(far)
			gone = append(gone, far...)
			if len(far) == len(lost) {
				b.give(near, player)
				b.stay(greatest)
				break
			}
		}
		left.restore(gone)
	}
	return solve
}
