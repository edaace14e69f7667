package det

import (
	"lodesman/api"
	"lodesman/ltl"
	"lodesman/rewrite"
	"lodesman/tableau"
)

// origin is an automaton from which one of the models of a formula can grow.
type origin struct {
	*grower
	opposite bool // whether its words are those that are no models
}

// origins returns the origins of a formula, as far as they are not too large: the automaton of its models and that of its negation.
func origins(f api.Formula, n int) ([]origin, api.Errno) {
	var list []origin
	a, e := tableau.General(f, n)
	switch e {
	case api.OK:
		list = appended(list, a, false)
	case api.ErrFull:
	default:
		return nil, e
	}
	f, _ = rewrite.Simple(f)
	if f, e = ltl.Negate(f); e != api.OK {
		return list, api.OK
	}
	if a, e = tableau.General(f, n); e == api.OK {
		list = appended(list, a, true)
	}
	return list, api.OK
}

// appended adds the origin that an automaton is, unless it is too large.
func appended(list []origin, a api.Automaton, opposite bool) []origin {
	g, e := growerOf(a)
	if e != api.OK {
		return list
	}
	return append(list, origin{grower: g, opposite: opposite})
}

// smallest returns the smallest automaton that grows from the origins. One of them may have far more trees than the other, so they are permitted few trees at first, and more if neither can do with these.
func smallest(list []origin) (api.Automaton, api.Errno) {
	for _, most := range []int{50, 400, api.MaxStates} {
		best, e := api.Automaton{}, api.ErrFull
		for _, o := range list {
			a, fault := o.parity(most, o.opposite)
			if fault == api.OK && (e != api.OK || isSmaller(a, best)) {
				best, e = a, api.OK
			}
		}
		if e == api.OK {
			return best, api.OK
		}
	}
	return api.Automaton{}, api.ErrFull
}

// isSmaller reports whether a has fewer states than b, or as many and fewer marks.
func isSmaller(a, b api.Automaton) bool {
	return a.States < b.States || a.States == b.States && a.Marks < b.Marks
}
