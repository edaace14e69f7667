package improve

import (
	"slices"

	"lodesman/graph"
)

// raising raises values one by one. A value that depends on itself could be raised again and again, so each one is raised once, and what is left is reported.
type raising struct {
	*climb
	waiting []bool // the positions in the queue that have not been processed yet
	raised  []bool
}

func newRaising(c *climb) *raising {
	return &raising{climb: c, waiting: make([]bool, len(c.Next)), raised: make([]bool, len(c.Next))}
}

// raise raises the values of some positions, and of those whose values depend on them, and returns the positions that could be raised again.
func (r *raising) raise(list []int) []int {
	var q graph.Queue
	add := func(list []int) {
		for _, v := range list {
			if !r.waiting[v] && !r.won[v] {
				r.waiting[v] = true
				q.Add(v)
			}
		}
	}
	add(list)
	var left []int
	for v := range q.All() {
		r.waiting[v] = false
		w := r.best(v)
		switch {
		case !r.raises(v, w):
			continue
		case r.won[w]:
			r.win(v, w)
		case r.raised[v]:
			left = append(left, v)
			continue
		default:
			r.raised[v] = true
			copy(r.value[v], r.value[w])
			r.value[v][r.place[v]] += r.weight(v)
		}
		add(r.raisedBy(v))
	}
	for _, v := range q {
		r.raised[v] = false
	}
	return slices.DeleteFunc(left, func(v int) bool { return r.won[v] })
}
