package det

import (
	"lodesman/api"
	"lodesman/aut"
	"lodesman/graph"
	"lodesman/shape"
)

// mostGrowth is how many steps are spent on trees. An automaton of 3 states has few trees.
const mostGrowth = 1 << 26

// settled is Det of a deterministic automaton.
func settled(a api.Automaton) (api.Automaton, api.Errno) {
	a, _ = shape.Trim(a)
	a, e := shape.Degeneral(a)
	if e != api.OK {
		return api.Automaton{}, e
	}
	a.Kind = api.Parity
	return aut.Fill(a)
}

// determined is Det of any other automaton.
func determined(a api.Automaton) (api.Automaton, api.Errno) {
	g, e := growerOf(a)
	if e != api.OK {
		return api.Automaton{}, e
	}
	return g.parity(api.MaxStates, false)
}

// growerOf returns the grower of an automaton of Kind Buchi or General.
func growerOf(a api.Automaton) (*grower, api.Errno) {
	a, _ = shape.Reduce(a)
	a, e := shape.Degeneral(a)
	if e != api.OK {
		return nil, e
	}
	a, _ = shape.Reduce(a)
	return newGrower(a), api.OK
}

// parity returns an automaton of Kind Parity with the same words, or the opposite ones, unless there are more than most trees.
func (g *grower) parity(most int, opposite bool) (api.Automaton, api.Errno) {
	d, ok := g.explored(g.start, min(most, g.patience(mostGrowth)), g.grow)
	if !ok {
		return api.Automaton{}, api.ErrFull
	}
	if opposite {
		d.negate()
	}
	a, e := reduced(d)
	if e != api.OK {
		return api.Automaton{}, e
	}
	if d = diagramOf(a); d.redirect() {
		if b, e := reduced(d); e == api.OK {
			a = b
		}
	}
	return a, api.OK
}

// reduced returns a small automaton of Kind Parity.
func reduced(d *diagram) (api.Automaton, api.Errno) {
	paint, marks := graph.Paint(d.next, d.mark)
	d.mark = paint
	a, e := d.automaton(api.Parity, marks)
	if e != api.OK {
		return api.Automaton{}, e
	}
	a, _ = shape.Reduce(a)
	return aut.Fill(a)
}
