package rewrite_test

import (
	"slices"
	"strings"
	"testing"

	"lodesman/api"
	"lodesman/ltl"
	"lodesman/truth"
)

// names are the propositions of the tests.
var names = []string{"p", "q", "r"}

// shapes are the operators with arguments, which are written a and b.
var shapes = []string{"!(a)", "X(a)", "F(a)", "G(a)", "(a)&(b)", "(a)|(b)", "(a)->(b)", "(a)<->(b)", "(a)U(b)", "(a)R(b)", "(a)W(b)"}

// filled is a shape with its arguments.
func filled(shape, a, b string) string { return strings.NewReplacer("a", a, "b", b).Replace(shape) }

// hasTwo reports whether a shape has two arguments.
func hasTwo(shape string) bool { return strings.Contains(shape, "b") }

func read(t *testing.T, text string) api.Formula {
	t.Helper()
	f, e := ltl.Parse(names, text)
	if e != api.OK {
		t.Fatalf("Parse(%q): %d", text, e)
	}
	return f
}

func show(t *testing.T, f api.Formula) string {
	t.Helper()
	s, e := ltl.Print(names, f)
	if e != api.OK {
		t.Fatalf("Print(%v): %d", f, e)
	}
	return s
}

func node(op int, args ...api.Formula) api.Formula { return api.Formula{Op: op, Args: args} }

func prop(i int) api.Formula { return api.Formula{Op: api.Var, Var: i} }

// chain is f behind n times the same operator.
func chain(op, n int, f api.Formula) api.Formula {
	for range n {
		f = node(op, f)
	}
	return f
}

// row is n propositions joined by And.
func row(n int) api.Formula {
	f := prop(0)
	for i := range n - 1 {
		f = node(api.And, f, prop((i+1)%3))
	}
	return f
}

// count is the number of nodes of f.
func count(f api.Formula) int {
	n := 1
	for _, g := range f.Args {
		n += count(g)
	}
	return n
}

// zero reports whether f is the zero value, as a result beside an error has to be.
func zero(f api.Formula) bool { return f.Op == 0 && f.Var == 0 && len(f.Args) == 0 }

// has reports whether is is true of f or of a formula below it.
func has(f api.Formula, is func(api.Formula) bool) bool {
	return is(f) || slices.ContainsFunc(f.Args, func(g api.Formula) bool { return has(g, is) })
}

// generator makes formulas that look random but are the same in every run.
type generator uint32

func (g *generator) below(n int) int {
	*g = *g*1664525 + 1013904223
	return int(*g>>8) % n
}

// text makes a formula with exactly that many nodes. Few propositions make equal and opposite subformulas likely.
func (g *generator) text(nodes, props int) string {
	if nodes == 1 {
		if g.below(6) == 0 {
			return []string{"true", "false"}[g.below(2)]
		}
		return names[g.below(props)]
	}
	shape := shapes[g.below(len(shapes))]
	if !hasTwo(shape) {
		return filled(shape, g.text(nodes-1, props), "")
	}
	if nodes == 2 {
		return g.text(nodes, props)
	}
	left := 1 + g.below(nodes-2)
	first := g.text(left, props)
	return filled(shape, first, g.text(nodes-1-left, props))
}

// samples are all formulas over p and q with at most three nodes, and others of all sizes.
func samples(t *testing.T) []api.Formula {
	leaves := []string{"true", "false", "p", "q"}
	var pairs, threes []string
	for _, shape := range shapes {
		for _, a := range leaves {
			for _, b := range leaves {
				if hasTwo(shape) {
					threes = append(threes, filled(shape, a, b))
				}
			}
			if !hasTwo(shape) {
				pairs = append(pairs, filled(shape, a, ""))
			}
		}
	}
	for _, shape := range shapes {
		for _, a := range pairs {
			if !hasTwo(shape) {
				threes = append(threes, filled(shape, a, ""))
			}
		}
	}
	var list []api.Formula
	for _, text := range slices.Concat(leaves, pairs, threes) {
		list = append(list, read(t, text))
	}
	g := generator(1)
	for size := 4; size <= api.MaxNodes; size++ {
		for i := range 30 {
			list = append(list, read(t, g.text(size, 1+i%3)))
		}
	}
	return list
}

// equivalent fails unless no word tells f from g.
func equivalent(t *testing.T, f, g api.Formula) {
	t.Helper()
	most := 2 // of three propositions; more letters if there are fewer
	n := 3
	if !ltl.Valid(f, 3) || !ltl.Valid(g, 3) {
		t.Fatalf("%v and %v", f, g)
	}
	if ltl.Valid(f, 2) && ltl.Valid(g, 2) {
		n, most = 2, 3
	}
	if w, e := truth.Differ(f, g, n, most); e != api.ErrNone {
		t.Fatalf("%s and %s differ on %v, %d", show(t, f), show(t, g), w, e)
	}
	for _, w := range longWords() {
		a, _ := truth.Model(f, w)
		b, e := truth.Model(g, w)
		if a != b || e != api.OK {
			t.Fatalf("%s and %s differ on %v, %d", show(t, f), show(t, g), w, e)
		}
	}
}

// longWords are words over three propositions that differ from position to position.
func longWords() []api.Word {
	g := generator(9)
	list := make([]api.Word, 6)
	for i := range list {
		for range 4 * i {
			list[i].Stem = append(list[i].Stem, g.below(8))
		}
		for range 3 + 5*i {
			list[i].Loop = append(list[i].Loop, g.below(8))
		}
	}
	return list
}

// badFormulas are formulas that no function accepts.
func badFormulas() []api.Formula {
	wide := prop(0)
	for range 100 {
		wide = node(api.Iff, wide, wide)
	}
	endless := []api.Formula{{Op: api.Next}}
	endless[0].Args = endless
	return []api.Formula{
		{Op: -1}, {Op: 14}, {Op: 1 << 62}, {Op: -1 << 63},
		{Op: api.Var, Var: -1}, {Op: api.Var, Var: 6}, {Op: api.Var, Var: 1 << 62},
		{Op: api.False, Var: 1}, {Op: api.Always}, node(api.Var, prop(0)), node(api.Next, prop(0), prop(0)), node(api.And, prop(0)),
		node(api.And, prop(0), node(api.Next, api.Formula{Op: 99})),
		{Op: api.Next, Var: 2, Args: []api.Formula{prop(0)}},
		chain(api.Next, api.MaxNodes, prop(0)), chain(api.Not, 1<<16, prop(0)), node(api.And, row(15), row(16)), wide, endless[0],
		{Op: api.And, Args: make([]api.Formula, 100000)},
	}
}
