package improve

import "lodesman/api"

// Values is, for the tests, what player 0 wins in the end, and what all other positions are worth.
func Values(g api.Game, choice []int) (won []bool, value [][]int) {
	wins, _ := Wins(g, 0, choice)
	c := climbed(g, choice, wins)
	return c.won, c.value
}
