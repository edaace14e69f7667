package aut

import (
	"slices"

	"lodesman/api"
	"lodesman/letters"
)

// Fill returns a complete and deterministic automaton with the words of a.
func Fill(a api.Automaton) (api.Automaton, api.Errno) {
	if !Valid(a) {
		return api.Automaton{}, api.ErrArg
	}
	sets, clash := lettersOf(a)
	if clash || len(a.Start) > 1 {
		return api.Automaton{}, api.ErrKind
	}
	if len(a.Start) == 1 && allFull(sets, a.Props) {
		return copied(a), api.OK
	}
	if a.States == api.MaxStates {
		return api.Automaton{}, api.ErrFull
	}
	filled := withSink(a, sets)
	if len(filled.Edges) > api.MaxEdges {
		return api.Automaton{}, api.ErrFull
	}
	return filled, api.OK
}

// copied returns a with lists of its own.
func copied(a api.Automaton) api.Automaton {
	a.Start, a.Edges = slices.Clone(a.Start), slices.Clone(a.Edges)
	return a
}

// withSink returns a with one more state, to which all letters lead that are not in the sets of the states. Marks are added only to kinds that have few, so there are never too many.
func withSink(a api.Automaton, sets []letters.Set) api.Automaton {
	rule, _ := acceptanceOf(a.Kind)
	refused := rule.refuses(a.Marks)
	filled, sink := copied(a), a.States
	filled.States++
	filled.Marks += refused.added
	for i := range filled.Edges {
		filled.Edges[i].Marks |= refused.others
	}
	if len(filled.Start) == 0 {
		filled.Start = []int{sink}
	}
	all := letters.Cubes(a.Props)
	for s, set := range append(sets, 0) {
		for _, c := range letters.Cover(letters.All(a.Props)&^set, all) {
			filled.Edges = append(filled.Edges, api.Edge{From: s, To: sink, Care: c.Care, Bits: c.Bits, Marks: refused.inf})
		}
	}
	return filled
}
