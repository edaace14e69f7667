package aut

import "lodesman/api"

// letterSet is a set of letters: its bit l tells whether it contains the letter l.
type letterSet uint64

// has reports whether the edge has the letter.
func has(e api.Edge, letter int) bool { return letter&e.Care == e.Bits }

// fitting returns the letters over props propositions that an edge has.
func fitting(e api.Edge, props int) letterSet {
	var set letterSet
	for l := range 1 << props {
		if has(e, l) {
			set |= 1 << l
		}
	}
	return set
}

// full returns the set of all letters over props propositions.
func full(props int) letterSet { return fitting(api.Edge{}, props) }

// lettersOf returns for each state the letters of its edges, and whether two edges of a state have a letter in common.
func lettersOf(a api.Automaton) (sets []letterSet, clash bool) {
	sets = make([]letterSet, a.States)
	for _, e := range a.Edges {
		set := fitting(e, a.Props)
		clash = clash || sets[e.From]&set != 0
		sets[e.From] |= set
	}
	return sets, clash
}

func allFull(sets []letterSet, props int) bool {
	for _, set := range sets {
		if set != full(props) {
			return false
		}
	}
	return true
}
