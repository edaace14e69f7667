package det

import (
	"math/bits"

	"lodesman/api"
	"lodesman/letters"
)

// diagram is an automaton with at most one edge from each state for each letter.
type diagram struct {
	props int
	group []int   // for each letter its group: letters of a group are on the same edges
	start int     // the Start state
	next  [][]int // for each state and each group the next state, or none
	mark  [][]int // and the mark of the edge, or none
}

// diagramOf returns the diagram of a deterministic and complete automaton of Kind Parity.
func diagramOf(a api.Automaton) *diagram {
	var labels []int
	for _, e := range a.Edges {
		labels = append(labels, bits.Len(uint(e.Marks))-1)
	}
	t := newTable(a, labels)
	d := &diagram{props: a.Props, group: t.group, start: a.Start[0]}
	for _, out := range t.out {
		next, mark := make([]int, t.groups), make([]int, t.groups)
		for g, list := range out {
			next[g], mark[g] = list[0].to, list[0].label
		}
		d.next, d.mark = append(d.next, next), append(d.mark, mark)
	}
	return d
}

// negate makes d, of which all states have all edges, a diagram of the other words as an automaton of Kind Parity.
func (d *diagram) negate() {
	for _, row := range d.mark {
		for g := range row {
			row[g]++
		}
	}
}

// bundle is what edges of a state have in common that differ in their letters only.
type bundle struct{ to, mark int }

// automaton returns the automaton of that kind with as many marks.
func (d *diagram) automaton(kind, marks int) (api.Automaton, api.Errno) {
	a := api.Automaton{Props: d.props, States: len(d.next), Start: []int{d.start}, Kind: kind, Marks: marks}
	if a.States > api.MaxStates || a.Marks > api.MaxMarks {
		return api.Automaton{}, api.ErrFull
	}
	cubes := letters.Cubes(d.props)
	for s := range d.next {
		list, sets := d.bundles(s)
		for k, b := range list {
			for _, c := range letters.Cover(sets[k], cubes) {
				a.Edges = append(a.Edges, api.Edge{From: s, To: b.to, Care: c.Care, Bits: c.Bits, Marks: only(b.mark)})
			}
		}
		if len(a.Edges) > api.MaxEdges {
			return api.Automaton{}, api.ErrFull
		}
	}
	return a, api.OK
}

// bundles returns the bundles of a state, and the letters of each, in the order of their first letters.
func (d *diagram) bundles(s int) (list []bundle, sets []letters.Set) {
	numbers := map[bundle]int{}
	for l, g := range d.group {
		if d.next[s][g] == none {
			continue
		}
		b := bundle{to: d.next[s][g], mark: d.mark[s][g]}
		if _, ok := numbers[b]; !ok {
			numbers[b] = len(list)
			list, sets = append(list, b), append(sets, 0)
		}
		sets[numbers[b]] |= 1 << l
	}
	return list, sets
}

// only returns the set of one mark, or of none.
func only(mark int) int {
	if mark == none {
		return 0
	}
	return 1 << mark
}
