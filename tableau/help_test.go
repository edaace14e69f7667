package tableau_test

import (
	"math"
	"slices"
	"testing"

	"lodesman/api"
	"lodesman/aut"
	"lodesman/ltl"
	"lodesman/member"
	"lodesman/truth"
)

// names are the propositions of the tests.
var names = []string{"p", "q", "r", "s", "t", "u"}

// prefixes and infixes are the operators as they are written.
var (
	prefixes = []string{"!", "X", "F", "G"}
	infixes  = []string{"&", "|", "->", "<->", "U", "R", "W"}
)

func read(t *testing.T, text string) api.Formula {
	t.Helper()
	f, e := ltl.Parse(names, text)
	if e != api.OK {
		t.Fatalf("Parse(%q): %d", text, e)
	}
	return f
}

func show(f api.Formula) string {
	s, _ := ltl.Print(names, f)
	return s
}

func node(op int, args ...api.Formula) api.Formula { return api.Formula{Op: op, Args: args} }

func prop(i int) api.Formula { return api.Formula{Op: api.Var, Var: i} }

// chain is f behind n times the same operator.
func chain(op, n int, f api.Formula) api.Formula {
	for range n {
		f = node(op, f)
	}
	return f
}

// row is n propositions joined by an operator.
func row(op, n int) api.Formula {
	f := prop(0)
	for i := range n - 1 {
		f = node(op, f, prop((i+1)%3))
	}
	return f
}

// texts are all formulas over p and q with at most most nodes.
func texts(most int) []string {
	bySize := [][]string{nil, {"true", "false", "p", "q"}}
	for size := 2; size <= most; size++ {
		var list []string
		for _, op := range prefixes {
			for _, f := range bySize[size-1] {
				list = append(list, op+"("+f+")")
			}
		}
		for _, op := range infixes {
			for left := 1; left < size-1; left++ {
				list = append(list, joined(op, bySize[left], bySize[size-1-left])...)
			}
		}
		bySize = append(bySize, list)
	}
	return slices.Concat(bySize...)
}

// joined puts an operator between each formula of one list and each one of another.
func joined(op string, left, right []string) []string {
	var list []string
	for _, f := range left {
		for _, g := range right {
			list = append(list, "("+f+")"+op+"("+g+")")
		}
	}
	return list
}

// generator makes things that look random but are the same in every run.
type generator uint32

func (g *generator) below(n int) int {
	*g = *g*1664525 + 1013904223
	return int(*g>>8) % n
}

// formula makes a formula with few temporal subformulas, each of which may occur several times, and many other nodes.
func (g *generator) formula(props, temporal, inner, outer int) api.Formula {
	leaves := []api.Formula{node(api.True)}
	for i := range props {
		leaves = append(leaves, prop(i), prop(i), prop(i))
	}
	pool := slices.Clone(leaves)
	for range temporal {
		op := api.Next + g.below(api.Weak-api.Next+1)
		f := node(op, g.combined(pool, 1+g.below(inner)))
		if op >= api.Until {
			f.Args = append(f.Args, g.combined(pool, 1+g.below(inner)))
		}
		pool = append(pool, f, f)
	}
	return g.combined(pool[len(leaves)-1:], 1+g.below(outer))
}

// combined makes a formula from others with that many nodes in addition.
func (g *generator) combined(pool []api.Formula, nodes int) api.Formula {
	switch {
	case nodes <= 1:
		return copied(pool[g.below(len(pool))])
	case g.below(6) == 0:
		return node(api.Not, g.combined(pool, nodes-1))
	}
	left := g.below(nodes)
	f := g.combined(pool, left)
	return node(api.And+g.below(4), f, g.combined(pool, nodes-1-left))
}

// word makes a word.
func (g *generator) word(props, stem, loop int) api.Word {
	var w api.Word
	for range stem {
		w.Stem = append(w.Stem, g.below(1<<props))
	}
	for range loop {
		w.Loop = append(w.Loop, g.below(1<<props))
	}
	return w
}

// words are several words over props propositions.
func (g *generator) words(props, count int) []api.Word {
	var list []api.Word
	for range count {
		list = append(list, g.word(props, g.below(4), 1+g.below(5)))
	}
	return list
}

// smallWords are all words over n propositions with at most most letters, in normal form or not.
func smallWords(n, most int) []api.Word {
	var list []api.Word
	lists := [][]int{{}}
	for size := 1; size <= most; size++ {
		var longer [][]int
		for _, l := range lists {
			for next := range 1 << n {
				longer = append(longer, append(slices.Clone(l), next))
			}
		}
		lists = longer
		for stem := range size {
			for _, l := range lists {
				list = append(list, api.Word{Stem: l[:stem], Loop: l[stem:]})
			}
		}
	}
	return list
}

// copied is a copy of f that shares nothing with it.
func copied(f api.Formula) api.Formula {
	args := slices.Clone(f.Args)
	for i, g := range args {
		args[i] = copied(g)
	}
	return api.Formula{Op: f.Op, Var: f.Var, Args: args}
}

// identical reports whether a and b have the same numbers and lists.
func identical(a, b api.Automaton) bool {
	same := a.Props == b.Props && a.States == b.States && a.Kind == b.Kind && a.Marks == b.Marks
	return same && slices.Equal(a.Start, b.Start) && slices.Equal(a.Edges, b.Edges)
}

// zero reports whether a is the zero value, as a result beside an error has to be.
func zero(a api.Automaton) bool { return identical(a, api.Automaton{}) }

// model is whether f is true of w.
func model(t *testing.T, f api.Formula, w api.Word) bool {
	t.Helper()
	is, e := truth.Model(f, w)
	if e != api.OK {
		t.Fatalf("Model(%s, %v): %d", show(f), w, e)
	}
	return is
}

// expectWord checks whether w is a word of a.
func expectWord(t *testing.T, f api.Formula, a api.Automaton, w api.Word, want bool) {
	t.Helper()
	if is, e := member.Has(a, w); is != want || e != api.OK {
		t.Fatalf("%s: Has(%v, %v) = %t, %d", show(f), a, w, is, e)
	}
}

// expectShape checks that an automaton is valid and of that kind.
func expectShape(t *testing.T, f api.Formula, a api.Automaton, e api.Errno, kind, n int) {
	t.Helper()
	if e != api.OK || !aut.Valid(a) || a.Kind != kind || a.Props != n {
		t.Fatalf("%s over %d propositions: %v, %d", show(f), n, a, e)
	}
}

// badNumbers are no numbers of propositions.
func badNumbers() []int {
	return []int{math.MinInt, -1 << 32, -2, -1, 7, 8, 63, 64, 1 << 40, math.MaxInt}
}

// badFormulas are formulas that are not valid over any number of propositions.
func badFormulas() []api.Formula {
	wide := prop(0)
	for range 100 {
		wide = node(api.Iff, wide, wide)
	}
	endless := []api.Formula{{Op: api.Next}}
	endless[0].Args = endless
	return []api.Formula{
		{Op: -1}, {Op: 14}, {Op: 1 << 62}, {Op: math.MinInt},
		{Op: api.Var, Var: -1}, {Op: api.Var, Var: 6}, {Op: api.Var, Var: 1 << 62},
		{Op: api.False, Var: 1}, {Op: api.Always}, node(api.Var, prop(0)), node(api.Next, prop(0), prop(0)), node(api.And, prop(0)),
		node(api.And, prop(0), node(api.Next, api.Formula{Op: 99})), {Op: api.Next, Var: 2, Args: []api.Formula{prop(0)}},
		chain(api.Next, api.MaxNodes, prop(0)), chain(api.Not, 1<<16, prop(0)), wide, endless[0], {Op: api.And, Args: make([]api.Formula, 100000)},
	}
}

// wideFormulas are valid formulas whose negation normal forms have more than 60 nodes.
func wideFormulas(t *testing.T) []api.Formula {
	list := []api.Formula{row(api.Iff, 6), chain(api.Not, 10, row(api.Iff, 10)), row(api.Iff, 30)}
	list = append(list, node(api.Not, row(api.Weak, 25)), chain(api.Always, 3, row(api.Iff, 7)))
	list = append(list, node(api.And, node(api.False), row(api.Iff, 8)))
	for _, f := range list {
		if _, e := ltl.Nnf(f); e != api.ErrFull || !ltl.Valid(f, 3) {
			t.Fatalf("%s: %d", show(f), e)
		}
	}
	return list
}
