package aut

import (
	"lodesman/api"
	"lodesman/letters"
)

// lettersOf returns for each state the letters of its edges, and whether two edges of a state have a letter in common.
func lettersOf(a api.Automaton) (sets []letters.Set, clash bool) {
	sets = make([]letters.Set, a.States)
	for _, e := range a.Edges {
		set := letters.Of(e, a.Props)
		clash = clash || sets[e.From]&set != 0
		sets[e.From] |= set
	}
	return sets, clash
}

func allFull(sets []letters.Set, props int) bool {
	for _, set := range sets {
		if set != letters.All(props) {
			return false
		}
	}
	return true
}
