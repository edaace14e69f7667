package ltl_test

import (
	"math"
	"reflect"
	"testing"

	"lodesman/api"
	"lodesman/ltl"
)

// P2.1
func TestValid(t *testing.T) {
	for op, n := range arity {
		if op == api.Var {
			continue
		}
		f := node(op, []api.Formula{prop(0), prop(1)}[:n]...)
		for over, want := range []bool{n < 1, n < 2, true, true, true, true, true} {
			if got := ltl.Valid(f, over); got != want {
				t.Errorf("Valid(%v, %d) = %v", f, over, got)
			}
		}
	}
	for i := range 6 {
		if ltl.Valid(prop(i), i) || !ltl.Valid(prop(i), i+1) {
			t.Errorf("Var %d", i)
		}
	}
	for _, n := range []int{-1, 7, 64, math.MinInt, math.MaxInt} {
		if ltl.Valid(node(api.True), n) || ltl.Valid(prop(0), n) {
			t.Errorf("over %d propositions", n)
		}
	}
	for _, f := range invalid() {
		if ltl.Valid(f, api.MaxProps) {
			t.Errorf("a formula that is not valid, with the operator %d", f.Op)
		}
	}
	if !ltl.Valid(api.Formula{Op: api.True, Args: []api.Formula{}}, 0) {
		t.Error("an empty list of arguments")
	}
}

// P2.1: the limit of nodes
func TestValidSize(t *testing.T) {
	if !ltl.Valid(repeated(api.Next, 59, prop(0)), 1) || ltl.Valid(repeated(api.Next, 60, prop(0)), 1) {
		t.Error("60 and 61 nodes in a row")
	}
	// A full tree of 5 levels has 31 nodes: two of them below one node are too many.
	f := doubled(api.And, 4)
	if !ltl.Valid(node(api.Or, f, repeated(api.Next, 27, prop(0))), 1) || ltl.Valid(node(api.Or, f, repeated(api.Next, 28, prop(0))), 1) {
		t.Error("60 and 61 nodes in a tree")
	}
	g := generator(7)
	for range 200 {
		if f := g.formula(60); !ltl.Valid(f, 3) {
			t.Errorf("%v", f)
		}
		if f := g.formula(61); ltl.Valid(f, 3) {
			t.Errorf("%v", f)
		}
	}
}

// P2.1
func TestSize(t *testing.T) {
	for _, c := range []struct {
		text                   string
		nodes, temporal, depth int
	}{
		{"p", 1, 0, 0},
		{"true", 1, 0, 0},
		{"!p & q", 4, 0, 0},
		{"X p", 2, 1, 1},
		{"F p", 2, 1, 1},
		{"G p", 2, 1, 1},
		{"p U q", 3, 1, 1},
		{"p R q", 3, 1, 1},
		{"p W q", 3, 1, 1},
		{"(p -> q) <-> (q | r)", 7, 0, 0},
		{"G (p -> X q) & F p", 8, 3, 2},
		{"F p & F p", 5, 2, 1},
		{"X X X p | (G q U !F r)", 11, 6, 3},
		{"(p U (q R (r W X p))) U q", 10, 5, 5},
	} {
		n, temporal, depth, e := ltl.Size(read(t, c.text))
		if n != c.nodes || temporal != c.temporal || depth != c.depth || e != api.OK {
			t.Errorf("Size(%s) = %d, %d, %d, %d", c.text, n, temporal, depth, e)
		}
	}
}

// Every function takes all MaxProps propositions.
func TestLastProposition(t *testing.T) {
	last := prop(api.MaxProps - 1)
	f := node(api.Not, last)
	if n, _, _, e := ltl.Size(f); n != 2 || e != api.OK {
		t.Errorf("Size = %d, %d", n, e)
	}
	if m, e := ltl.Props(f); m != 32 || e != api.OK {
		t.Errorf("Props = %d, %d", m, e)
	}
	if l, e := ltl.Subs(f); len(l) != 2 || e != api.OK {
		t.Errorf("Subs = %v, %d", l, e)
	}
	if g, e := ltl.Nnf(f); !identical(g, f) || e != api.OK {
		t.Errorf("Nnf = %v, %d", g, e)
	}
	if g, e := ltl.Negate(f); !identical(g, last) || e != api.OK {
		t.Errorf("Negate = %v, %d", g, e)
	}
	if g, e := ltl.Put(f, api.MaxProps-1, f); !identical(g, node(api.Not, f)) || e != api.OK {
		t.Errorf("Put = %v, %d", g, e)
	}
	if is, e := ltl.Safe(f); !is || e != api.OK {
		t.Errorf("Safe = %v, %d", is, e)
	}
}

// P2.2
func TestSame(t *testing.T) {
	list := small(3)
	for i, f := range list {
		for j, g := range list {
			if got := ltl.Same(f, copied(g)); got != (i == j) {
				t.Fatalf("Same(%v, %v) = %v", f, g, got)
			}
		}
	}
	none, empty := api.Formula{Op: api.True}, api.Formula{Op: api.True, Args: []api.Formula{}}
	if !ltl.Same(none, empty) || !ltl.Same(node(api.Not, empty), node(api.Not, none)) {
		t.Error("an empty list is not nil")
	}
	if ltl.Same(prop(0), prop(1)) || ltl.Same(node(api.And, prop(0), prop(1)), node(api.And, prop(1), prop(0))) {
		t.Error("formulas that differ in their propositions")
	}
}

// P2.2 for formulas that are not valid: they are compared as trees all the same, however large.
func TestSameInvalid(t *testing.T) {
	odd := api.Formula{Op: -3, Var: 9, Args: []api.Formula{{Op: 99}, {}, {Var: 4}}}
	if !ltl.Same(odd, copied(odd)) {
		t.Error("a copy")
	}
	for _, g := range []api.Formula{
		{Op: -3, Var: 8, Args: copied(odd).Args},
		{Op: -2, Var: 9, Args: copied(odd).Args},
		{Op: -3, Var: 9, Args: odd.Args[:2]},
		{Op: -3, Var: 9},
		{Op: -3, Var: 9, Args: []api.Formula{{Op: 99}, {}, {Var: 5}}},
	} {
		if ltl.Same(odd, g) || ltl.Same(g, odd) {
			t.Errorf("%v and %v", odd, g)
		}
	}
	f, g := doubled(api.And, 100), doubled(api.And, 100)
	if !ltl.Same(f, g) || ltl.Same(f, doubled(api.And, 99)) || ltl.Same(f, doubled(api.Or, 100)) {
		t.Error("trees whose lists share memory")
	}
	last := node(api.And, g, node(api.And, g, prop(1)))
	if ltl.Same(node(api.And, f, node(api.And, f, prop(0))), last) {
		t.Error("a difference behind lists that were compared")
	}
	if f := repeated(api.Not, 1<<16-1, prop(0)); !ltl.Same(f, copied(f)) || ltl.Same(f, repeated(api.Not, 1<<16-1, prop(1))) {
		t.Error("deep trees")
	}
	wide := api.Formula{Args: make([]api.Formula, 1000000)}
	if !ltl.Same(wide, api.Formula{Args: make([]api.Formula, 1000000)}) || ltl.Same(wide, api.Formula{Args: wide.Args[1:]}) {
		t.Error("wide trees")
	}
	// Lists of different lengths may begin at the same element.
	shared := []api.Formula{prop(0), prop(1)}
	other := []api.Formula{prop(0), prop(2)}
	a := api.Formula{Args: []api.Formula{{Args: shared[:1]}, {Args: shared}}}
	b := api.Formula{Args: []api.Formula{{Args: other[:1]}, {Args: other}}}
	if ltl.Same(a, b) {
		t.Error("lists that begin alike")
	}
}

// P2.3
func TestProps(t *testing.T) {
	for text, want := range map[string]int{"true": 0, "F false": 0, "p": 1, "q": 2, "r": 4, "!r": 4, "X p U q": 3, "p & !p": 1, "G (p -> X (q W r))": 7} {
		if got, e := ltl.Props(read(t, text)); got != want || e != api.OK {
			t.Errorf("Props(%s) = %d, %d", text, got, e)
		}
	}
	if got, e := ltl.Props(node(api.Iff, prop(5), prop(3))); got != 40 || e != api.OK {
		t.Errorf("Props of 5 and 3 = %d, %d", got, e)
	}
}

// P2.5
func TestSubs(t *testing.T) {
	for text, want := range map[string][]string{
		"p":                       {"p"},
		"true":                    {"true"},
		"p U (q & p)":             {"p", "q", "q & p", "p U (q & p)"},
		"p & p":                   {"p", "p & p"},
		"X X p":                   {"p", "X p", "X X p"},
		"(q & p) | (p & q)":       {"q", "p", "q & p", "p & q", "q & p | p & q"},
		"G (p -> X q) <-> X q":    {"p", "q", "X q", "p -> X q", "G (p -> X q)", "G (p -> X q) <-> X q"},
		"(p | r) U (p | r) & !!p": {"p", "r", "p | r", "(p | r) U (p | r)", "!p", "!!p", "(p | r) U (p | r) & !!p"},
		"F p -> p":                {"p", "F p", "F p -> p"},
	} {
		list, e := ltl.Subs(read(t, text))
		var got []string
		for _, f := range list {
			got = append(got, show(t, f))
		}
		if e != api.OK || !reflect.DeepEqual(got, want) {
			t.Errorf("Subs(%s) = %q, %d", text, got, e)
		}
	}
}

// P2.5, by the definition: in post-order, without those that came before
func TestSubsOrder(t *testing.T) {
	for _, f := range samples() {
		var want []api.Formula
		var walk func(g api.Formula)
		walk = func(g api.Formula) {
			for _, h := range g.Args {
				walk(h)
			}
			for _, h := range want {
				if identical(g, h) {
					return
				}
			}
			want = append(want, g)
		}
		walk(f)
		got, e := ltl.Subs(f)
		if e != api.OK || !identical(api.Formula{Args: got}, api.Formula{Args: want}) {
			t.Fatalf("Subs(%s) = %v, %d", full(f), got, e)
		}
	}
}

// Rules 1, 2 and 5: every function refuses every formula that is not valid.
func TestInvalidFormulas(t *testing.T) {
	for _, f := range invalid() {
		if n, temporal, depth, e := ltl.Size(f); e != api.ErrArg || n != 0 || temporal != 0 || depth != 0 {
			t.Errorf("Size: %d", e)
		}
		if m, e := ltl.Props(f); e != api.ErrArg || m != 0 {
			t.Errorf("Props: %d", e)
		}
		if g, e := ltl.Nnf(f); e != api.ErrArg || !zero(g) {
			t.Errorf("Nnf: %d", e)
		}
		if g, e := ltl.Negate(f); e != api.ErrArg || !zero(g) {
			t.Errorf("Negate: %d", e)
		}
		if is, e := ltl.Safe(f); e != api.ErrArg || is {
			t.Errorf("Safe: %d", e)
		}
		if l, e := ltl.Subs(f); e != api.ErrArg || len(l) != 0 {
			t.Errorf("Subs: %d", e)
		}
		for _, i := range []int{math.MinInt, -1, 0, 5, 6, math.MaxInt} {
			if g, e := ltl.Put(f, i, prop(0)); e != api.ErrArg || !zero(g) {
				t.Errorf("Put in it: %d", e)
			}
			if g, e := ltl.Put(prop(0), i, f); e != api.ErrArg || !zero(g) {
				t.Errorf("Put it: %d", e)
			}
		}
		if s, e := ltl.Print([]string{"a", "b", "c", "d", "e", "f"}, f); e != api.ErrArg || s != "" {
			t.Errorf("Print: %d", e)
		}
	}
}

// Rule 6 and P2: calls change no argument, equal calls have equal results, and results are memory of their own.
func TestEffects(t *testing.T) {
	text := "(p & q) U !(r <-> X p)"
	f, by := read(t, text), read(t, "X q")
	same := node(api.And, f, f)
	one := func(g api.Formula, _ api.Errno) []api.Formula { return []api.Formula{g} }
	list := func(l []api.Formula, _ api.Errno) []api.Formula { return l }
	calls := map[string]func() []api.Formula{
		"Nnf":       func() []api.Formula { return one(ltl.Nnf(f)) },
		"Negate":    func() []api.Formula { return one(ltl.Negate(f)) },
		"Nnf twice": func() []api.Formula { return one(ltl.Nnf(same)) },
		"Put":       func() []api.Formula { return one(ltl.Put(f, 0, by)) },
		"Put none":  func() []api.Formula { return one(ltl.Put(f, 5, by)) },
		"Put twice": func() []api.Formula { return one(ltl.Put(same, 0, by)) },
		"Subs":      func() []api.Formula { return list(ltl.Subs(f)) },
		"Parse":     func() []api.Formula { return one(ltl.Parse(names, text)) },
	}
	for name, call := range calls {
		before, again := call(), call()
		if !reflect.DeepEqual(before, again) {
			t.Errorf("%s: %v, and then %v", name, before, again)
		}
		for i, g := range before {
			if !identical(g, again[i]) {
				t.Errorf("%s: two formulas of a result share memory", name)
			}
			for j, h := range g.Args {
				if !identical(h, again[i].Args[j]) {
					t.Errorf("%s: two arguments of a result share memory", name)
				}
				spoil(h)
			}
			spoil(g)
		}
		if show(t, f) != "(p & q) U !(r <-> X p)" || show(t, by) != "X q" {
			t.Fatalf("%s changes or shares its arguments", name)
		}
		if !reflect.DeepEqual(again, call()) {
			t.Errorf("%s: results share memory", name)
		}
	}
}
