package prod

import (
	"iter"

	"lodesman/api"
)

// product is an automaton whose states are pairs of states of two others, and whose edges are pairs of their edges.
type product struct {
	api.Automaton
	shift         int // the marks of the second automaton come behind those of the first one
	first, second [][]bundle
	numbers       map[[2]int]int
	pairs         [][2]int
}

// bundle is what a state has of edges with the same letters.
type bundle struct {
	care, bits int
	edges      []api.Edge
}

// newProduct returns the product with the pairs of Start states alone. It has no more of them than it may have states, and one.
func newProduct(kind int, a, b api.Automaton) *product {
	p := &product{shift: a.Marks, first: bundles(a), second: bundles(b), numbers: map[[2]int]int{}}
	p.Automaton = api.Automaton{Props: a.Props, Kind: kind, Marks: a.Marks + b.Marks}
	for _, s := range a.Start {
		for _, t := range b.Start {
			if p.isFull() {
				return p
			}
			n := p.number([2]int{s, t})
			p.Start = append(p.Start, n)
		}
	}
	return p
}

// built adds all states that are reachable, with their edges.
func (p *product) built() (api.Automaton, api.Errno) {
	for at := 0; at < len(p.pairs); at++ {
		for e, f := range p.common(p.pairs[at]) {
			to := p.number([2]int{e.To, f.To})
			p.Edges = append(p.Edges, api.Edge{From: at, To: to, Care: e.Care | f.Care, Bits: e.Bits | f.Bits, Marks: e.Marks | f.Marks<<p.shift})
			if p.isFull() {
				break
			}
		}
		if p.isFull() {
			return api.Automaton{}, api.ErrFull
		}
	}
	p.States = len(p.pairs)
	return p.Automaton, api.OK
}

func (p *product) isFull() bool {
	return len(p.pairs) > api.MaxStates || len(p.Edges) > api.MaxEdges
}

// number returns the number of a pair of states.
func (p *product) number(pair [2]int) int {
	if _, ok := p.numbers[pair]; !ok {
		p.numbers[pair] = len(p.pairs)
		p.pairs = append(p.pairs, pair)
	}
	return p.numbers[pair]
}

// common yields the pairs of edges from a pair of states that have a letter in common. Bundles are compared and not edges: a state may have very many edges, but not with many sets of letters.
func (p *product) common(from [2]int) iter.Seq2[api.Edge, api.Edge] {
	return func(yield func(e, f api.Edge) bool) {
		for _, x := range p.first[from[0]] {
			for _, y := range p.second[from[1]] {
				if x.meets(y) && !x.with(y, yield) {
					return
				}
			}
		}
	}
}

// meets reports whether the edges of two bundles have a letter in common.
func (x bundle) meets(y bundle) bool { return (x.bits^y.bits)&x.care&y.care == 0 }

// with passes on all pairs of edges, until one is refused.
func (x bundle) with(y bundle, yield func(e, f api.Edge) bool) bool {
	for _, e := range x.edges {
		for _, f := range y.edges {
			if !yield(e, f) {
				return false
			}
		}
	}
	return true
}

// bundles returns for each state its edges.
func bundles(a api.Automaton) [][]bundle {
	out := make([][]bundle, a.States)
	numbers := map[[3]int]int{}
	for _, e := range a.Edges {
		key := [3]int{e.From, e.Care, e.Bits}
		k, ok := numbers[key]
		if !ok {
			k = len(out[e.From])
			numbers[key] = k
			out[e.From] = append(out[e.From], bundle{care: e.Care, bits: e.Bits})
		}
		out[e.From][k].edges = append(out[e.From][k].edges, e)
	}
	return out
}
