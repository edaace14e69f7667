package aut

import (
	"math/bits"
	"slices"

	"lodesman/api"
)

// Fill returns a complete and deterministic automaton with the words of a.
func Fill(a api.Automaton) (api.Automaton, api.Errno) {
	if !Valid(a) {
		return api.Automaton{}, api.ErrArg
	}
	sets, clash := lettersOf(a)
	if clash || len(a.Start) > 1 {
		return api.Automaton{}, api.ErrKind
	}
	if len(a.Start) == 1 && allFull(sets, a.Props) {
		return copied(a), api.OK
	}
	if a.States == api.MaxStates {
		return api.Automaton{}, api.ErrFull
	}
	filled := withSink(a, sets)
	if len(filled.Edges) > api.MaxEdges {
		return api.Automaton{}, api.ErrFull
	}
	return filled, api.OK
}

// copied returns a with lists of its own.
func copied(a api.Automaton) api.Automaton {
	a.Start, a.Edges = slices.Clone(a.Start), slices.Clone(a.Edges)
	return a
}

// withSink returns a with one more state, to which all letters lead that are not in the sets of the states. Marks are added only to kinds that have few, so there are never too many.
func withSink(a api.Automaton, sets []letterSet) api.Automaton {
	rule, _ := acceptanceOf(a.Kind)
	refused := rule.refuses(a.Marks)
	filled, sink := copied(a), a.States
	filled.States++
	filled.Marks += refused.added
	for i := range filled.Edges {
		filled.Edges[i].Marks |= refused.others
	}
	if len(filled.Start) == 0 {
		filled.Start = []int{sink}
	}
	all := cubes(a.Props)
	for s, set := range append(sets, 0) {
		for _, c := range cover(full(a.Props)&^set, all) {
			filled.Edges = append(filled.Edges, api.Edge{From: s, To: sink, Care: c.care, Bits: c.bits, Marks: refused.inf})
		}
	}
	return filled
}

// cube is a set of letters that one edge can have.
type cube struct {
	care, bits int
	letters    letterSet
}

// cubes returns all cubes over props propositions, the largest ones first.
func cubes(props int) []cube {
	var list []cube
	for count := range props + 1 {
		for care := range 1 << props {
			if bits.OnesCount(uint(care)) == count {
				list = append(list, cubesOf(care, props)...)
			}
		}
	}
	return list
}

// cubesOf returns the cubes that care for these propositions.
func cubesOf(care, props int) []cube {
	var list []cube
	for l := range 1 << props {
		if l&^care == 0 {
			letters := fitting(api.Edge{Care: care, Bits: l}, props)
			list = append(list, cube{care: care, bits: l, letters: letters})
		}
	}
	return list
}

// cover returns disjoint cubes that together are the set. Large ones are taken first, so that few edges are needed.
func cover(set letterSet, all []cube) []cube {
	var list []cube
	for _, c := range all {
		if c.letters&^set == 0 {
			list = append(list, c)
			set &^= c.letters
		}
	}
	return list
}
