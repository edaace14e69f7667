package rewrite

import (
	"lodesman/api"
	"lodesman/ltl"
)

// special says what is left of a formula of two arguments in special cases: True, False, Var for its other argument alone (the second one, if both are opposite), or the operator that then stands before that argument.
type special struct {
	firstTrue, firstFalse, secondTrue, secondFalse, opposite int
}

// specials has the special cases of each operator of two arguments.
var specials = [...]special{
	api.And:     {api.Var, api.False, api.Var, api.False, api.False},
	api.Or:      {api.True, api.Var, api.True, api.Var, api.True},
	api.Implies: {api.Var, api.True, api.True, api.Not, api.Var},
	api.Iff:     {api.Var, api.Not, api.Var, api.Not, api.False},
	api.Until:   {api.Finally, api.Var, api.True, api.False, api.Finally},
	api.Release: {api.Var, api.Always, api.True, api.False, api.Always},
	api.Weak:    {api.True, api.Var, api.True, api.Always, api.True},
}

// duals has for an operator the one with which the negation of a formula is that of the negated arguments, or True if there is none.
var duals = [...]int{
	api.And:     api.Or,
	api.Or:      api.And,
	api.Next:    api.Next,
	api.Finally: api.Always,
	api.Always:  api.Finally,
	api.Until:   api.Release,
	api.Release: api.Until,
	api.Weak:    api.True,
}

// rules returns all rules, in the order in which they are tried.
func rules() []rule {
	return []rule{
		unary(constantBelow),
		unary(negation),
		unary(nested),
		binary(specialCase),
		binary(implication),
		binary(absorption),
	}
}

// unary makes a rule for formulas of one argument.
func unary(change func(op int, g api.Formula) (api.Formula, bool)) rule {
	return func(f api.Formula) (api.Formula, bool) {
		if len(f.Args) != 1 {
			return api.Formula{}, false
		}
		return change(f.Op, f.Args[0])
	}
}

// binary makes a rule for formulas of two arguments.
func binary(change func(op int, g, h api.Formula) (api.Formula, bool)) rule {
	return func(f api.Formula) (api.Formula, bool) {
		if len(f.Args) != 2 {
			return api.Formula{}, false
		}
		return change(f.Op, f.Args[0], f.Args[1])
	}
}

// constantBelow: !true, X true, F true, G true, and those of false.
func constantBelow(op int, g api.Formula) (api.Formula, bool) {
	if g.Op != api.True && g.Op != api.False {
		return api.Formula{}, false
	}
	return constant((g.Op == api.True) != (op == api.Not)), true
}

// negation: !!g, and !(!g op !h), which is g dual h.
func negation(op int, g api.Formula) (api.Formula, bool) {
	if op != api.Not {
		return api.Formula{}, false
	}
	if g.Op == api.Not {
		return g.Args[0], true
	}
	dual := duals[g.Op]
	if dual == api.True {
		return api.Formula{}, false
	}
	var args []api.Formula
	for _, h := range g.Args {
		if h.Op != api.Not {
			return api.Formula{}, false
		}
		args = append(args, h.Args[0])
	}
	return node(dual, args...), true
}

// nested: F F g, F (g U h), G G g, G (g R h), F G F g and G F G g.
func nested(op int, g api.Formula) (api.Formula, bool) {
	switch {
	case op == api.Finally && (g.Op == api.Finally || g.Op == api.Until):
		return node(op, g.Args[len(g.Args)-1]), true
	case op == api.Always && (g.Op == api.Always || g.Op == api.Release):
		return node(op, g.Args[len(g.Args)-1]), true
	case op == api.Finally && g.Op == api.Always && g.Args[0].Op == api.Finally:
		return g, true
	case op == api.Always && g.Op == api.Finally && g.Args[0].Op == api.Always:
		return g, true
	}
	return api.Formula{}, false
}

// specialCase: an argument is True or False, or one is the negation of the other.
func specialCase(op int, g, h api.Formula) (api.Formula, bool) {
	s := specials[op]
	switch {
	case g.Op == api.True:
		return left(s.firstTrue, h), true
	case g.Op == api.False:
		return left(s.firstFalse, h), true
	case h.Op == api.True:
		return left(s.secondTrue, g), true
	case h.Op == api.False:
		return left(s.secondFalse, g), true
	case ltl.Same(g, not(h)) || ltl.Same(not(g), h):
		return left(s.opposite, h), true
	}
	return api.Formula{}, false
}

// left makes what an entry of the table leaves.
func left(entry int, other api.Formula) api.Formula {
	switch entry {
	case api.True, api.False:
		return node(entry)
	case api.Var:
		return other
	}
	return node(entry, other)
}

// implication: one argument implies the other, or both are the same.
func implication(op int, g, h api.Formula) (api.Formula, bool) {
	switch op {
	case api.And:
		if implies(g, h) {
			return g, true
		}
		return h, implies(h, g)
	case api.Or:
		if implies(h, g) {
			return g, true
		}
		return h, implies(g, h)
	case api.Until, api.Weak:
		return h, implies(g, h)
	case api.Release:
		return h, implies(h, g)
	case api.Implies:
		return node(api.True), implies(g, h)
	default: // Iff
		return node(api.True), ltl.Same(g, h)
	}
}

// absorption: the second argument says most of it already, as in g U F h and in g U (g U h).
func absorption(op int, g, h api.Formula) (api.Formula, bool) {
	again := len(h.Args) == 2 && ltl.Same(g, h.Args[0])
	switch op {
	case api.Until:
		return h, h.Op == api.Finally || again && (h.Op == api.Until || h.Op == api.Weak)
	case api.Release:
		return h, h.Op == api.Always || again && h.Op == api.Release
	case api.Weak:
		if again && (h.Op == api.Until || h.Op == api.Weak) {
			return node(op, g, h.Args[1]), true
		}
	}
	return api.Formula{}, false
}

// implies reports whether f implies g because one of them is found in the other. (It may miss other reasons.)
func implies(f, g api.Formula) bool { return stronger(f, g) || weaker(g, f) }

// stronger reports whether f implies g because g is found in f.
func stronger(f, g api.Formula) bool {
	if ltl.Same(f, g) {
		return true
	}
	switch f.Op {
	case api.And:
		return stronger(f.Args[0], g) || stronger(f.Args[1], g)
	case api.Or, api.Until, api.Weak:
		return stronger(f.Args[0], g) && stronger(f.Args[1], g)
	case api.Always:
		return stronger(f.Args[0], g)
	case api.Release:
		return stronger(f.Args[1], g)
	}
	return false
}

// weaker reports whether f is implied by g because g is found in f.
func weaker(f, g api.Formula) bool {
	if ltl.Same(f, g) {
		return true
	}
	switch f.Op {
	case api.Or:
		return weaker(f.Args[0], g) || weaker(f.Args[1], g)
	case api.And, api.Release:
		return weaker(f.Args[0], g) && weaker(f.Args[1], g)
	case api.Finally:
		return weaker(f.Args[0], g)
	case api.Until, api.Weak, api.Implies:
		return weaker(f.Args[1], g)
	}
	return false
}
