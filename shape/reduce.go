package shape

import (
	"lodesman/api"
	"lodesman/letters"
)

// mostSteps is how many steps Reduce spends on the comparison of states, which takes the square of the number of edges.
const mostSteps = 1 << 26

// reducer makes its automaton smaller. No step of it adds states, edges or marks, changes the words, or makes a deterministic automaton one that is not.
type reducer struct {
	api.Automaton
	steps int // that are left
}

func newReducer(a api.Automaton) *reducer {
	return &reducer{Automaton: trimmed(a), steps: mostSteps}
}

// reduced repeats all steps until none of them helps.
func (r *reducer) reduced() api.Automaton {
	steps := []func(){r.rank, r.forget, r.thin, r.join, r.merge, r.fold, r.prune, r.trim}
	for size := none; size != r.size(); {
		size = r.size()
		for _, step := range steps {
			step()
		}
	}
	return r.Automaton
}

const none = -1

func (r *reducer) size() int { return r.States + len(r.Start) + len(r.Edges) + r.Marks }

func (r *reducer) trim() { r.Automaton = trimmed(r.Automaton) }

func (r *reducer) merge() { r.Automaton = quotient(r.Automaton, colours(r.Automaton)) }

// bundle is what edges have in common that differ in their letters only.
type bundle struct{ from, to, marks int }

// join replaces edges that differ in their letters only by fewer ones.
func (r *reducer) join() {
	numbers := map[bundle]int{}
	var bundles [][]api.Edge
	for _, e := range r.Edges {
		b := bundle{e.From, e.To, e.Marks}
		if _, ok := numbers[b]; !ok {
			numbers[b] = len(bundles)
			bundles = append(bundles, nil)
		}
		bundles[numbers[b]] = append(bundles[numbers[b]], e)
	}
	r.Edges = nil
	cubes := letters.Cubes(r.Props)
	for _, list := range bundles {
		r.Edges = append(r.Edges, fewer(list, r.Props, cubes)...)
	}
}

// fewer returns edges with the same letters, which otherwise are like those of the list.
func fewer(list []api.Edge, props int, cubes []letters.Cube) []api.Edge {
	var set letters.Set
	for _, e := range list {
		set |= letters.Of(e, props)
	}
	cover := letters.Cover(set, cubes)
	if len(cover) >= len(list) {
		return list
	}
	var short []api.Edge
	for _, c := range cover {
		e := list[0]
		e.Care, e.Bits = c.Care, c.Bits
		short = append(short, e)
	}
	return short
}
