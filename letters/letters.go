// Package letters provides sets of letters, and the edges that have them, for the layers that handle automata.
package letters

import (
	"math/bits"

	"lodesman/api"
)

// Set is a set of letters: its bit l tells whether it contains the letter l.
type Set uint64

// Has reports whether an edge has a letter.
func Has(e api.Edge, letter int) bool { return letter&e.Care == e.Bits }

// Of returns the letters over props propositions that an edge has.
func Of(e api.Edge, props int) Set {
	var set Set
	for l := range 1 << props {
		if Has(e, l) {
			set |= 1 << l
		}
	}
	return set
}

// All returns the set of all letters over props propositions.
func All(props int) Set { return Of(api.Edge{}, props) }

// Cube is a set of letters that one edge can have.
type Cube struct {
	Care, Bits int
	Letters    Set
}

// Cubes returns all cubes over props propositions, the largest ones first.
func Cubes(props int) []Cube {
	var list []Cube
	for count := range props + 1 {
		for care := range 1 << props {
			if bits.OnesCount(uint(care)) == count {
				list = append(list, cubesOf(care, props)...)
			}
		}
	}
	return list
}

// cubesOf returns the cubes that care for these propositions.
func cubesOf(care, props int) []Cube {
	var list []Cube
	for l := range 1 << props {
		if l&^care == 0 {
			list = append(list, Cube{Care: care, Bits: l, Letters: Of(api.Edge{Care: care, Bits: l}, props)})
		}
	}
	return list
}

// Cover returns disjoint cubes of all that together are the set. Large ones are taken first, so that few edges are needed.
func Cover(set Set, all []Cube) []Cube {
	var list []Cube
	for _, c := range all {
		if set == 0 {
			break
		}
		if c.Letters&^set == 0 {
			list = append(list, c)
			set &^= c.Letters
		}
	}
	return list
}
