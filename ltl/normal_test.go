package ltl_test

import (
	"math"
	"testing"

	"lodesman/api"
	"lodesman/ltl"
)

// P2.4: the table of the chapter, row by row, and compositions of rows
func TestNormalForms(t *testing.T) {
	for _, c := range []struct{ f, pos, neg string }{
		{"true", "true", "false"},
		{"false", "false", "true"},
		{"p", "p", "!p"},
		{"!p", "!p", "p"},
		{"!true", "false", "true"},
		{"!!p", "p", "!p"},
		{"p & q", "p & q", "!p | !q"},
		{"p | q", "p | q", "!p & !q"},
		{"p -> q", "!p | q", "p & !q"},
		{"p <-> q", "p & q | !p & !q", "p & !q | !p & q"},
		{"X p", "X p", "X !p"},
		{"F p", "F p", "G !p"},
		{"G p", "G p", "F !p"},
		{"p U q", "p U q", "!p R !q"},
		{"p R q", "p R q", "!p U !q"},
		{"p W q", "p W q", "(p & !q) U (!p & !q)"},
		{"!(p & q)", "!p | !q", "p & q"},
		{"!(p W q)", "(p & !q) U (!p & !q)", "p W q"},
		{"!p & X !q", "!p & X !q", "p | X q"},
		{"!G F p", "F G !p", "G F p"},
		{"G (p -> X q)", "G (!p | X q)", "F (p & X !q)"},
		{"(p -> q) -> r", "p & !q | r", "(!p | q) & !r"},
		{"(F p) <-> !q", "F p & !q | G !p & q", "F p & q | G !p & !q"},
		{"!(F p <-> q)", "F p & !q | G !p & q", "F p & q | G !p & !q"},
		{"(p <-> q) <-> r", "(p & q | !p & !q) & r | (p & !q | !p & q) & !r", "(p & q | !p & !q) & !r | (p & !q | !p & q) & r"},
		{"!p W (q U r)", "!p W q U r", "(!p & !q R !r) U (p & !q R !r)"},
		{"(p W q) W r", "(p W q) W r", "(p W q & !r) U ((p & !q) U (!p & !q) & !r)"},
		{"(X p) U (q R G r)", "X p U q R G r", "X !p R !q U F !r"},
	} {
		f := read(t, c.f)
		if g, e := ltl.Nnf(f); e != api.OK || show(t, g) != c.pos {
			t.Errorf("Nnf(%s) = %s, %d", c.f, show(t, g), e)
		}
		if g, e := ltl.Negate(f); e != api.OK || show(t, g) != c.neg {
			t.Errorf("Negate(%s) = %s, %d", c.f, show(t, g), e)
		}
	}
}

// isNormal reports whether f is in negation normal form.
func isNormal(f api.Formula) bool {
	switch f.Op {
	case api.Implies, api.Iff:
		return false
	case api.Not:
		return f.Args[0].Op == api.Var
	}
	for _, g := range f.Args {
		if !isNormal(g) {
			return false
		}
	}
	return true
}

// P2.10, and that Negate is Nnf of the negation
func TestNnfShape(t *testing.T) {
	for _, f := range samples() {
		n, e := ltl.Nnf(f)
		if e == api.ErrFull && zero(n) {
			continue
		}
		if e != api.OK || !ltl.Valid(n, 3) || !isNormal(n) {
			t.Fatalf("Nnf(%s) = %v, %d", full(f), n, e)
		}
		if again, e := ltl.Nnf(n); e != api.OK || !identical(again, n) {
			t.Fatalf("Nnf(%s) = %s, and then %s", full(f), full(n), full(again))
		}
		if count(f) == api.MaxNodes {
			continue
		}
		g, e := ltl.Negate(f)
		other, d := ltl.Nnf(node(api.Not, f))
		if e != d || !identical(g, other) {
			t.Fatalf("Negate(%s) = %v, %d; Nnf of its Not: %v, %d", full(f), g, e, other, d)
		}
	}
}

// P2.4: the limit of nodes
func TestNormalLimits(t *testing.T) {
	// The negation of k propositions joined by And has 3 k - 1 nodes.
	chain := prop(0)
	for range 19 {
		chain = node(api.And, chain, prop(1))
	}
	exact := node(api.Next, chain)
	if g, e := ltl.Negate(exact); e != api.OK || count(g) != api.MaxNodes {
		t.Errorf("60 nodes: %v, %d", g, e)
	}
	if g, e := ltl.Nnf(node(api.Not, exact)); e != api.OK || count(g) != api.MaxNodes {
		t.Errorf("60 nodes: %v, %d", g, e)
	}
	if g, e := ltl.Negate(node(api.Next, exact)); e != api.ErrFull || !zero(g) {
		t.Errorf("61 nodes: %v, %d", g, e)
	}
	if g, e := ltl.Nnf(node(api.Next, exact)); e != api.OK || count(g) != 41 {
		t.Errorf("41 nodes: %v, %d", g, e)
	}
	// Written out, these would have hundreds of millions of nodes.
	left, right := prop(0), prop(0)
	for range 29 {
		left, right = node(api.Iff, left, prop(1)), node(api.Iff, prop(1), right)
	}
	for _, f := range []api.Formula{left, right, node(api.Not, left)} {
		g, e := ltl.Nnf(f)
		h, d := ltl.Negate(f)
		is, c := ltl.Safe(f)
		if e != api.ErrFull || d != api.ErrFull || c != api.ErrFull || !zero(g) || !zero(h) || is {
			t.Errorf("nested Iff: %d, %d, %d", e, d, c)
		}
	}
}

// P2.7
func TestPut(t *testing.T) {
	for _, c := range []struct {
		f    string
		i    int
		by   string
		want string
	}{
		{"p U q", 1, "X p", "p U X p"},
		{"p", 0, "q & r", "q & r"},
		{"q", 0, "q & r", "q"},
		{"p & !p", 0, "p | p", "(p | p) & !(p | p)"},
		{"p <-> q", 0, "q", "q <-> q"},
		{"G (p -> X p)", 0, "q <-> r", "G ((q <-> r) -> X (q <-> r))"},
		{"true", 0, "p", "true"},
		{"p & q", 5, "r", "p & q"},
	} {
		g, e := ltl.Put(read(t, c.f), c.i, read(t, c.by))
		if e != api.OK || show(t, g) != c.want {
			t.Errorf("Put(%s, %d, %s) = %s, %d", c.f, c.i, c.by, show(t, g), e)
		}
	}
	if g, e := ltl.Put(prop(5), 5, prop(4)); e != api.OK || !identical(g, prop(4)) {
		t.Errorf("the last proposition: %v, %d", g, e)
	}
	for _, i := range []int{-1, 6, math.MinInt, math.MaxInt} {
		if g, e := ltl.Put(prop(0), i, prop(1)); e != api.ErrRange || !zero(g) {
			t.Errorf("Put(%d) = %v, %d", i, g, e)
		}
	}
}

// P2.7: the limit of nodes
func TestPutLimits(t *testing.T) {
	f := node(api.And, prop(0), node(api.And, prop(0), prop(1))) // 5 nodes, of which 2 are replaced
	thirty := repeated(api.Next, 27, prop(2))
	if g, e := ltl.Put(f, 0, thirty); e != api.OK || count(g) != 59 {
		t.Errorf("59 nodes: %v, %d", g, e)
	}
	if g, e := ltl.Put(node(api.Not, f), 0, thirty); e != api.OK || count(g) != 60 {
		t.Errorf("60 nodes: %v, %d", g, e)
	}
	if g, e := ltl.Put(f, 0, node(api.Not, thirty)); e != api.ErrFull || !zero(g) {
		t.Errorf("61 nodes: %v, %d", g, e)
	}
	large := repeated(api.Next, 59, prop(0))
	if g, e := ltl.Put(large, 1, large); e != api.OK || !identical(g, large) {
		t.Errorf("nothing to replace: %v, %d", g, e)
	}
	if g, e := ltl.Put(prop(0), 0, large); e != api.OK || !identical(g, large) {
		t.Errorf("all replaced: %v, %d", g, e)
	}
	if g, e := ltl.Put(large, 0, node(api.Not, prop(0))); e != api.ErrFull || !zero(g) {
		t.Errorf("one more node: %v, %d", g, e)
	}
}

// P2.8
func TestSafe(t *testing.T) {
	for text, want := range map[string]bool{
		"true": true, "p": true, "X !p": true, "G p": true, "p R q": true, "p W q": true,
		"F p": false, "p U q": false, "!F p": true, "!(p U q)": true, "!G p": false,
		"!(p R q)": false, "!(p W q)": false, "!F (p & X q)": true,
		"G (p -> X q)": true, "F p -> q": true, "p -> F q": false, "G p <-> q": false,
		"G (p | F q)": false, "X (p W G q)": true, "p <-> q": true,
	} {
		if got, e := ltl.Safe(read(t, text)); got != want || e != api.OK {
			t.Errorf("Safe(%s) = %v, %d", text, got, e)
		}
	}
}
