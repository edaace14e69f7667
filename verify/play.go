package verify

import (
	"iter"
	"slices"

	"lodesman/api"
	"lodesman/game"
)

// playOf returns the play that goes through some lists of positions, one after the other, and then round a loop.
func playOf(loop []int, stems ...[]int) Play {
	return Play{Stem: slices.Concat(stems...), Loop: loop}
}

// followed returns the play from v in which each position is left by its choice.
func followed(g api.Game, choices []int, v int) Play {
	stem, loop, _, _ := game.Play(g, choices, v)
	return playOf(loop, stem)
}

// moves yields each position of the play with the one behind it.
func (p Play) moves() iter.Seq2[int, int] {
	return func(yield func(v, w int) bool) {
		path := slices.Concat(p.Stem, p.Loop, p.Loop[:1])
		for i, w := range path[1:] {
			if !yield(path[i], w) {
				return
			}
		}
	}
}

// isOf reports whether p is a play of g.
func (p Play) isOf(g api.Game) bool {
	if len(p.Loop) == 0 {
		return false
	}
	for v, w := range p.moves() {
		if !isPosition(g, v) || !slices.Contains(g.Next[v], w) {
			return false
		}
	}
	return true
}

// first returns the position with which the play begins.
func (p Play) first() int {
	if len(p.Stem) > 0 {
		return p.Stem[0]
	}
	return p.Loop[0]
}

// winner returns who wins the play.
func (p Play) winner(g api.Game) int {
	most := none
	for _, v := range p.Loop {
		most = max(most, g.Priority[v])
	}
	return most % 2
}
