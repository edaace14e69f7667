package member

import (
	"lodesman/api"
	"lodesman/word"
)

// graph is a graph whose arcs have marks. The arcs of products are computed when they are asked for: there may be too many to keep.
type graph interface {
	size() int
	starts() []int
	degree(node int) int
	arc(node, k int) (arc, bool) // the arc k of degree; false if there is no such arc
}

type arc struct {
	to    int
	marks markSet
}

// diagram is the graph of an automaton.
type diagram struct {
	api.Automaton
	out [][]link
}

// link is an edge from a state that is known, beside the other ones of that state.
type link struct {
	to, care, bits, marks int
	index                 int // of the edge in the automaton
}

func newDiagram(a api.Automaton) *diagram {
	out := make([][]link, a.States)
	for i, e := range a.Edges {
		out[e.From] = append(out[e.From], link{to: e.To, care: e.Care, bits: e.Bits, marks: e.Marks, index: i})
	}
	return &diagram{Automaton: a, out: out}
}

func (d *diagram) size() int { return d.States }

func (d *diagram) starts() []int { return d.Start }

func (d *diagram) degree(state int) int { return len(d.out[state]) }

func (d *diagram) arc(state, k int) (arc, bool) {
	e := &d.out[state][k]
	return arc{to: e.to, marks: markSet{first: e.marks}}, true
}

// track is the product of an automaton and a word: the node of a state at a position is position * States + state.
type track struct {
	*diagram
	letters []int
	stem    int // behind the last letter follows the letter at this position
}

func newTrack(a api.Automaton, w api.Word) *track {
	// The fewer letters, the fewer nodes.
	w, _ = word.Normal(w)
	letters := append(append([]int{}, w.Stem...), w.Loop...)
	return &track{diagram: newDiagram(a), letters: letters, stem: len(w.Stem)}
}

func (t *track) size() int { return len(t.letters) * t.States }

func (t *track) degree(node int) int { return t.diagram.degree(node % t.States) }

func (t *track) arc(node, k int) (arc, bool) {
	at := node / t.States
	e := &t.out[node%t.States][k]
	if t.letters[at]&e.care != e.bits {
		return arc{}, false
	}
	next := at + 1
	if next == len(t.letters) {
		next = t.stem
	}
	return arc{to: next*t.States + e.to, marks: markSet{first: e.marks}}, true
}

// product is the product of two automata: the node of two states is state of a * States of b + state of b.
type product struct {
	a, b *diagram
}

func (p *product) size() int { return p.a.States * p.b.States }

func (p *product) starts() []int {
	var list []int
	for _, s := range p.a.Start {
		for _, t := range p.b.Start {
			list = append(list, s*p.b.States+t)
		}
	}
	return list
}

func (p *product) degree(node int) int {
	return p.a.degree(node/p.b.States) * p.b.degree(node%p.b.States)
}

func (p *product) arc(node, k int) (arc, bool) {
	s, t := node/p.b.States, node%p.b.States
	count := p.b.degree(t)
	e, f := &p.a.out[s][k/count], &p.b.out[t][k%count]
	if (e.bits^f.bits)&e.care&f.care != 0 {
		return arc{}, false
	}
	return arc{to: e.to*p.b.States + f.to, marks: markSet{first: e.marks, second: f.marks}}, true
}

// letters returns for each arc of a list a letter of its edge.
func (d *diagram) letters(list []place) []int {
	var letters []int
	for _, p := range list {
		letters = append(letters, d.out[p.node][p.k].bits)
	}
	return letters
}

// indices returns for each arc of a list the index of its edge.
func (t *track) indices(list []place) []int {
	var indices []int
	for _, p := range list {
		indices = append(indices, t.out[p.node%t.States][p.k].index)
	}
	return indices
}
