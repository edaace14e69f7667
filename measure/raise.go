package measure

import (
	"slices"

	"lodesman/api"
	"lodesman/game"
	"lodesman/graph"
)

// mostRaised is how often measures may be raised.
const mostRaised = 1 << 20

// labelling is a game with a measure for each position.
type labelling struct {
	api.Game
	scale
	measures []Measure
}

// enoughFor reports whether the measure of v is large enough for its successor w.
func (l *labelling) enoughFor(v, w int) bool {
	return l.enough(l.measures[v], l.measures[w], l.Priority[v])
}

// holds reports whether the measure of v satisfies the condition.
func (l *labelling) holds(v int) bool {
	is := func(w int) bool { return l.enoughFor(v, w) }
	if l.Owner[v] == 0 {
		return slices.ContainsFunc(l.Next[v], is)
	}
	return !slices.ContainsFunc(l.Next[v], func(w int) bool { return !is(w) })
}

// choice returns the first successor of v for which its measure is large enough.
func (l *labelling) choice(v int) int {
	k := slices.IndexFunc(l.Next[v], func(w int) bool { return l.enoughFor(v, w) })
	return l.Next[v][k]
}

// raising raises measures from lists of 0 until the condition is satisfied everywhere.
type raising struct {
	labelling
	before  [][]int     // for each position those of which it is a successor
	queue   graph.Queue // positions at which the condition may be violated
	waiting []bool      // whether a position is in the queue and has not been examined again yet
	raised  int
}

// smallest returns a game with its measures.
func smallest(g api.Game) (labelling, api.Errno) {
	s := scaleOf(g)
	r := raising{
		labelling: labelling{Game: g, scale: s, measures: make([]Measure, len(g.Next))},
		before:    graph.Before(g.Next),
		waiting:   slices.Repeat([]bool{true}, len(g.Next)),
	}
	for v := range r.measures {
		r.measures[v].List = make([]int, len(s.count))
	}
	r.fill()
	if !r.run() {
		return labelling{}, api.ErrFull
	}
	return r.labelling, api.OK
}

// fill puts all positions into the queue, successors before the positions that lead to them as far as possible: then most measures are raised once, and not again after each measure they depend on.
func (r *raising) fill() {
	next := func(v, k int) int { return r.Next[v][k] }
	degree := func(v int) int { return len(r.Next[v]) }
	for _, part := range graph.NewSplitter(len(r.Next)).Split(graph.UpTo(len(r.Next)), degree, next) {
		for _, v := range slices.Backward(part) {
			r.queue.Add(v)
		}
	}
}

// run raises measures until the condition is satisfied everywhere, and reports whether that has been possible within the limit.
func (r *raising) run() bool {
	full := false
	checked := 0 // how often measures had been raised at the last look at what player 1 wins
raising:
	for v := range r.queue.All() {
		r.waiting[v] = false
		for !r.holds(v) {
			if r.raised >= mostRaised {
				full = true
				break raising
			}
			r.raise(v, r.lowest(v))
			if r.raised-checked >= len(r.Next) {
				checked = r.raised
				r.concede()
			}
		}
		r.recall(v)
	}
	return !full
}

func (r *raising) raise(v int, m Measure) {
	r.measures[v] = m
	r.raised++
}

// lowest returns the smallest measure that the successors of v permit.
func (r *raising) lowest(v int) Measure {
	return r.prog(r.measures[r.decisive(v)], r.Priority[v])
}

// decisive returns the successor of v on which its measure depends: the first one with the smallest measure for player 0, with the greatest one for player 1.
func (r *raising) decisive(v int) int {
	best := r.Next[v][0]
	for _, w := range r.Next[v] {
		a, b := w, best
		if r.Owner[v] == 1 {
			a, b = best, w
		}
		if less(r.measures[a], r.measures[b]) {
			best = w
		}
	}
	return best
}

// recall puts the positions back into the queue that lead to v and need a greater measure because of it.
func (r *raising) recall(v int) {
	for _, u := range r.before[v] {
		if !r.waiting[u] && !r.enoughFor(u, v) && !r.holds(u) {
			r.waiting[u] = true
			r.queue.Add(u)
		}
	}
}

// concede raises to top the measures of all positions that player 1 wins if it always goes to the greatest measure. Step by step, they would get there only after as many steps as there are measures.
func (r *raising) concede() {
	choices := slices.Repeat([]int{none}, len(r.Next))
	for v, owner := range r.Owner {
		if owner == 1 {
			choices[v] = r.decisive(v)
		}
	}
	fixed, _ := game.Trade(r.Game, choices, 1)
	wins, _ := game.One(fixed, 0)
	for v, is := range wins {
		if !is && !r.measures[v].Top {
			r.raise(v, Measure{Top: true})
			r.recall(v)
		}
	}
}
