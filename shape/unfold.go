package shape

import "lodesman/api"

// place is a state, and the mark that is waited for.
type place struct{ state, mark int }

// unfolding makes an automaton of one mark of one with several. It waits for one mark after the other.
type unfolding struct {
	api.Automaton
	promising []bool
	numbers   map[place]int
	places    []place
}

func newUnfolding(a api.Automaton) *unfolding {
	return &unfolding{Automaton: a, promising: promising(a), numbers: map[place]int{}}
}

// unfolded explores all places. As long as no run can be accepted within a part, it waits for mark 0 there: so that part has no more states than before.
func (u *unfolding) unfolded() (api.Automaton, api.Errno) {
	b := api.Automaton{Props: u.Props, Kind: api.Buchi, Marks: 1}
	for _, s := range u.Start {
		b.Start = append(b.Start, u.number(place{state: s}))
	}
	out := make([][]int, u.States)
	for i, e := range u.Edges {
		out[e.From] = append(out[e.From], i)
	}
	for at := 0; at < len(u.places); at++ {
		here := u.places[at]
		for _, i := range out[here.state] {
			e := u.Edges[i]
			next, marks := u.behind(i, here.mark)
			b.Edges = append(b.Edges, api.Edge{From: at, To: u.number(place{e.To, next}), Care: e.Care, Bits: e.Bits, Marks: marks})
		}
		if len(u.places) > api.MaxStates || len(b.Edges) > api.MaxEdges {
			return api.Automaton{}, api.ErrFull
		}
	}
	b.States = len(u.places)
	return b, api.OK
}

// number returns the number of a place.
func (u *unfolding) number(p place) int {
	if _, ok := u.numbers[p]; !ok {
		u.numbers[p] = len(u.places)
		u.places = append(u.places, p)
	}
	return u.numbers[p]
}

// behind returns the mark that is waited for behind the edge i, and the marks of this edge: when the last mark is met, there is one, and the first one is waited for again.
func (u *unfolding) behind(i, mark int) (next, marks int) {
	if !u.promising[i] {
		return 0, 0
	}
	next = u.missing(i, mark)
	if next < u.Marks {
		return next, 0
	}
	return u.missing(i, 0) % max(u.Marks, 1), 1
}

// missing returns the first mark from this one on that the edge i does not have, or Marks if there is none.
func (u *unfolding) missing(i, mark int) int {
	for mark < u.Marks && u.Edges[i].Marks>>mark&1 == 1 {
		mark++
	}
	return mark
}
