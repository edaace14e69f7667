package rewrite_test

import (
	"slices"
	"testing"

	"lodesman/api"
	"lodesman/ltl"
	"lodesman/rewrite"
	"lodesman/truth"
)

// plain reports whether f is plain.
func plain(f api.Formula) bool {
	constant := func(g api.Formula) bool { return g.Op == api.True || g.Op == api.False }
	double := func(g api.Formula) bool { return g.Op == api.Not && g.Args[0].Op == api.Not }
	return constant(f) || !has(f, constant) && !has(f, double)
}

// P4.1, P4.5, P4.6
func TestSimple(t *testing.T) {
	for _, f := range samples(t) {
		g, e := rewrite.Simple(f)
		if e != api.OK || !ltl.Valid(g, 3) || !plain(g) || count(g) > count(f) {
			t.Fatalf("Simple(%s) = %v, %d", show(t, f), g, e)
		}
		equivalent(t, f, g)
		if again, e := rewrite.Simple(g); e != api.OK || !ltl.Same(again, g) {
			t.Fatalf("Simple(%s) = %s, and then %s, %d", show(t, f), show(t, g), show(t, again), e)
		}
		if used, _ := ltl.Props(f); used == 0 && g.Op > api.False {
			t.Fatalf("Simple(%s) = %s", show(t, f), show(t, g))
		}
	}
}

// P4.1: example 1 of the chapter, formulas without Var, and formulas with an obvious result
func TestSimpleConstants(t *testing.T) {
	for text, want := range map[string]string{
		"G true & !!p": "p", "true": "true", "false": "false", "p": "p", "!p": "!p", "!!p": "p", "!!!p": "!p", "!true": "false", "!!false": "false",
		"X true": "true", "F false": "false", "G (true U false)": "false", "false W false": "false", "true R false": "false", "false <-> false": "true", "false -> X true": "true",
		"true & p": "p", "p & true": "p", "false | p": "p", "p | false": "p", "true -> p": "p", "true <-> p": "p", "p <-> true": "p", "false U p": "p", "true R p": "p", "false W p": "p",
	} {
		if g, e := rewrite.Simple(read(t, text)); e != api.OK || show(t, g) != want {
			t.Errorf("Simple(%s) = %v, %d", text, g, e)
		}
	}
	large := chain(api.Not, 58, prop(5))
	if g, e := rewrite.Simple(large); e != api.OK || !ltl.Same(g, prop(5)) {
		t.Errorf("58 negations: %v, %d", g, e)
	}
}

// P4.1, P4.5, P4.6: arguments that are equal, opposite, or nested in each other
func TestSimpleNested(t *testing.T) {
	inner := []string{"p", "q", "!p", "!q", "X p", "F p", "G p", "p & q", "p | q", "p U q", "p R q", "p W q", "q U p", "q R p", "q W p", "F G p", "G F p", "!p U !q", "!p R !q", "!p & !q", "!p | !q", "X !p", "F !p", "G !p", "X (p U q)"}
	for _, shape := range shapes {
		for _, a := range inner {
			for _, b := range inner {
				text := filled(shape, a, b)
				f := read(t, text)
				g, e := rewrite.Simple(f)
				if e != api.OK || !plain(g) || count(g) > count(f) {
					t.Fatalf("Simple(%s) = %v, %d", text, g, e)
				}
				if w, e := truth.Differ(f, g, 2, 4); e != api.ErrNone {
					t.Fatalf("Simple(%s) = %s, which differs on %v, %d", text, show(t, g), w, e)
				}
				if again, _ := rewrite.Simple(g); !ltl.Same(again, g) {
					t.Fatalf("Simple(%s) = %s, and then %s", text, show(t, g), show(t, again))
				}
				if !hasTwo(shape) {
					break
				}
			}
		}
	}
}

// pushed reports whether each Next is in front of what Push permits.
func pushed(f api.Formula) bool {
	return !has(f, func(g api.Formula) bool {
		return g.Op == api.Next && g.Args[0].Op != api.Next && g.Args[0].Op > api.Var
	})
}

// pushedSize is the number of nodes of f without Next, and with as many in front of each Var as enclose it.
func pushedSize(f api.Formula, depth int) int {
	switch f.Op {
	case api.Next:
		return pushedSize(f.Args[0], depth+1)
	case api.Var:
		return depth + 1
	}
	n := 1
	for _, g := range f.Args {
		n += pushedSize(g, depth)
	}
	return n
}

// checkPush holds the result of Push against the promises.
func checkPush(t *testing.T, f api.Formula) {
	t.Helper()
	g, e := rewrite.Push(f)
	if e == api.ErrFull && pushedSize(f, 0) > api.MaxNodes && zero(g) {
		return
	}
	if e != api.OK || !ltl.Valid(g, api.MaxProps) || !pushed(g) {
		t.Fatalf("Push(%v) = %v, %d", f, g, e)
	}
	equivalent(t, f, g)
}

// P4.2, P4.5
func TestPush(t *testing.T) {
	for _, f := range samples(t) {
		checkPush(t, f)
	}
	for _, text := range []string{
		"X (p U X q)", "X X (p & X q)", "X !X p", "X (p -> q)", "X (p <-> X q)", "X F p", "X G X p", "X (p R q)", "X (p W q)", "X (p | F X (q & X r))",
		"X true", "X (true U p)", "X X false & p", "G (p -> X (q | X r))", "X X X p", "!X !p",
	} {
		checkPush(t, read(t, text))
	}
	g, e := rewrite.Push(read(t, "X (p U X q)"))
	if e != api.OK || show(t, g) != "X p U X X q" {
		t.Errorf("example 2: %v, %d", g, e)
	}
	if g, e := rewrite.Push(node(api.Next, node(api.Not, prop(5)))); e != api.OK || !ltl.Same(g, node(api.Not, node(api.Next, prop(5)))) && !pushed(g) {
		t.Errorf("the last proposition: %v, %d", g, e)
	}
}

// P4.2: the limit of nodes
func TestPushLimits(t *testing.T) {
	constants := node(api.And, node(api.And, node(api.True), node(api.False)), node(api.Or, node(api.True), prop(0)))
	for _, f := range []api.Formula{
		chain(api.Next, 28, node(api.And, node(api.Not, prop(0)), prop(1))), // 60 nodes
		chain(api.Next, 28, node(api.Until, prop(0), prop(1))),              // 59 nodes
		chain(api.Next, 29, node(api.Until, prop(0), prop(1))),              // 61 nodes
		chain(api.Next, 59, node(api.True)),
		chain(api.Next, 59, prop(0)),
		chain(api.Next, 58, node(api.Not, node(api.False))),
		chain(api.Next, 53, constants), // 60 nodes: constants need no Next
		chain(api.Next, 2, row(15)),
		chain(api.Next, 3, row(15)), // 74 nodes
		chain(api.Next, 31, row(15)),
		row(30),
	} {
		if !ltl.Valid(f, 3) {
			t.Fatalf("%v", f)
		}
		checkPush(t, f)
	}
}

// P4.3: how formulas are split
func TestParts(t *testing.T) {
	for text, want := range map[string][]string{
		"p & G (q & X (p & q))": {"p", "G q", "G X p", "G X q"},
		"p":                     {"p"},
		"true":                  {"true"},
		"p & q":                 {"p", "q"},
		"p & p":                 {"p", "p"},
		"q & p & r":             {"q", "p", "r"},
		"q & (p & r)":           {"q", "p", "r"},
		"(p & q) & (r & p)":     {"p", "q", "r", "p"},
		"p | q & r":             {"p | q & r"},
		"!(p | q)":              {"!(p | q)"},
		"!(p & q)":              {"!(p & q)"},
		"F (p & q)":             {"F (p & q)"},
		"G (p & q)":             {"G p", "G q"},
		"X (p & q)":             {"X p", "X q"},
		"X G (p & q)":           {"X G p", "X G q"},
		"G F (p & q)":           {"G F (p & q)"},
		"G p":                   {"G p"},
		"X (p -> q & r)":        {"X (p -> q & r)"},
		"(p & q) U (p & q)":     {"(p & q) U (p & q)"},
		"false R (p & q)":       {"false R (p & q)"},
		"p & q <-> r":           {"p & q <-> r"},
		"(p & q) W r & X X !p":  {"(p & q) W r", "X X !p"},
		"G (p & G (q & G r))":   {"G p", "G G q", "G G G r"},
		"true & X false":        {"true", "X false"},
	} {
		list, e := rewrite.Parts(read(t, text))
		var got []string
		for _, g := range list {
			got = append(got, show(t, g))
		}
		if e != api.OK || !slices.Equal(got, want) {
			t.Errorf("Parts(%s) = %q, %d", text, got, e)
		}
	}
}

// P4.3: the limit of the parts
func TestPartsLimits(t *testing.T) {
	for _, c := range []struct {
		f    api.Formula
		want int
	}{
		{chain(api.Always, 4, row(12)), 12}, // 60 nodes
		{chain(api.Next, 5, row(10)), 10},   // 60 nodes
		{chain(api.Next, 2, chain(api.Always, 2, row(12))), 12},
		{node(api.And, chain(api.Always, 4, row(12)), prop(0)), 1}, // 61 nodes
		{node(api.And, prop(0), chain(api.Next, 4, row(12))), 1},
		{chain(api.Always, 5, row(11)), 1}, // 66 nodes
		{chain(api.Next, 31, row(15)), 1},
		{row(30), 30},
		{chain(api.Next, 59, prop(0)), 1},
		{chain(api.Always, 57, row(2)), 1}, // 116 nodes
	} {
		list, e := rewrite.Parts(c.f)
		if e != api.OK || len(list) != c.want {
			t.Errorf("Parts(%v) = %v, %d", c.f, list, e)
		}
		if c.want == 1 && (len(list) != 1 || !ltl.Same(list[0], c.f)) {
			t.Errorf("Parts(%v) = %v", c.f, list)
		}
	}
}

// P4.5: f is true where all its parts are.
func TestPartsEquivalence(t *testing.T) {
	for _, f := range samples(t) {
		f = node(api.Always, node(api.And, f, node(api.Next, node(api.And, prop(1), f))))
		if !ltl.Valid(f, 3) {
			continue
		}
		list, e := rewrite.Parts(f)
		if e != api.OK {
			t.Fatalf("Parts(%v): %d", f, e)
		}
		all := list[0]
		for _, g := range list[1:] {
			all = node(api.And, all, g)
		}
		if ltl.Valid(all, 3) {
			equivalent(t, f, all)
		}
	}
}

// templates are what Until makes of each shape; others remain.
var templates = map[string]string{
	"(a)|(b)": "!(!(a)&!(b))", "(a)->(b)": "!((a)&!(b))", "(a)<->(b)": "!((a)&!(b))&!((b)&!(a))", "F(a)": "true U(a)", "G(a)": "!(true U !(a))",
	"(a)R(b)": "!(!(a)U!(b))", "(a)W(b)": "!(!(b)U(!(a)&!(b)))",
}

// untilText is Until of f, by the chapter. (The operators with arguments are numbered from Not on: in another order than the shapes.)
func untilText(f api.Formula) string {
	switch f.Op {
	case api.True:
		return "true"
	case api.False:
		return "!true"
	case api.Var:
		return names[f.Var]
	}
	order := []string{"!(a)", "(a)&(b)", "(a)|(b)", "(a)->(b)", "(a)<->(b)", "X(a)", "F(a)", "G(a)", "(a)U(b)", "(a)R(b)", "(a)W(b)"}
	shape := order[f.Op-api.Not]
	if other, ok := templates[shape]; ok {
		shape = other
	}
	return filled(shape, untilText(f.Args[0]), untilText(f.Args[len(f.Args)-1]))
}

// P4.4, P4.5: each operator, and all of them inside each other
func TestUntil(t *testing.T) {
	for text, want := range map[string]string{
		"p W q": "!(!q U (!p & !q))", "false": "!true", "true": "true", "p": "p", "!p": "!p", "!!p": "!!p", "X p": "X p", "p & q": "p & q", "p U q": "p U q",
		"p | q": "!(!p & !q)", "p -> q": "!(p & !q)", "p <-> q": "!(p & !q) & !(q & !p)", "F p": "true U p", "G p": "!(true U !p)", "p R q": "!(!p U !q)",
		"!false": "!!true", "!(p | q)": "!!(!p & !q)", "G F p": "!(true U !(true U p))", "F false": "true U !true", "!p | q": "!(!!p & !q)",
	} {
		if g, e := rewrite.Until(read(t, text)); e != api.OK || show(t, g) != want {
			t.Errorf("Until(%s) = %v, %d", text, g, e)
		}
	}
	for _, f := range samples(t) {
		if count(f) > 24 {
			continue // the text may become long
		}
		g, e := rewrite.Until(f)
		want, d := ltl.Parse(names, untilText(f))
		if e != d || !ltl.Same(g, want) {
			t.Fatalf("Until(%s) = %v, %d, but not %v, %d", show(t, f), g, e, want, d)
		}
		if e == api.OK {
			equivalent(t, f, g)
		}
	}
}

// P4.4: the limit of nodes
func TestUntilLimits(t *testing.T) {
	p := prop(0)
	iffs, weaks := p, p
	for range 29 {
		iffs, weaks = node(api.Iff, iffs, p), node(api.Weak, p, weaks)
	}
	for _, c := range []struct {
		f    api.Formula
		want api.Errno
	}{
		{chain(api.Next, 59, p), api.OK},
		{chain(api.Not, 59, node(api.True)), api.OK},
		{chain(api.Next, 58, node(api.False)), api.OK},
		{chain(api.Next, 59, node(api.False)), api.ErrFull},
		{chain(api.Next, 57, node(api.Finally, p)), api.OK},
		{chain(api.Next, 58, node(api.Finally, p)), api.ErrFull},
		{chain(api.Next, 54, node(api.Or, p, p)), api.OK},
		{chain(api.Next, 55, node(api.Or, p, p)), api.ErrFull},
		{chain(api.Always, 14, chain(api.Next, 3, p)), api.OK}, // 60 nodes
		{chain(api.Always, 15, p), api.ErrFull},                // 61 nodes
		{iffs, api.ErrFull},                                    // thousands of millions of nodes
		{weaks, api.ErrFull},
		{row(30), api.OK},
	} {
		if g, e := rewrite.Until(c.f); e != c.want || e != api.OK && !zero(g) || e == api.OK && !ltl.Valid(g, 3) {
			t.Errorf("Until(%v) = %v, %d", c.f, g, e)
		}
	}
	if g, e := rewrite.Until(node(api.Finally, prop(5))); e != api.OK || !ltl.Same(g, node(api.Until, node(api.True), prop(5))) {
		t.Errorf("the last proposition: %v, %d", g, e)
	}
}

// Rules 1, 2 and 5: every function refuses every formula that is not valid.
func TestErrors(t *testing.T) {
	for _, f := range badFormulas() {
		if g, e := rewrite.Simple(f); e != api.ErrArg || !zero(g) {
			t.Errorf("Simple: %v, %d", g, e)
		}
		if g, e := rewrite.Push(f); e != api.ErrArg || !zero(g) {
			t.Errorf("Push: %v, %d", g, e)
		}
		if l, e := rewrite.Parts(f); e != api.ErrArg || len(l) != 0 {
			t.Errorf("Parts: %v, %d", l, e)
		}
		if g, e := rewrite.Until(f); e != api.ErrArg || !zero(g) {
			t.Errorf("Until: %v, %d", g, e)
		}
	}
}

// spoil overwrites all the memory of f's lists.
func spoil(f api.Formula) {
	for i, g := range f.Args {
		spoil(g)
		f.Args[i] = api.Formula{Op: -1, Var: -1}
	}
}

// Rule 6 and P2: calls change no argument, equal calls have equal results, and no lists share memory.
func TestEffects(t *testing.T) {
	one := func(g api.Formula, _ api.Errno) []api.Formula { return []api.Formula{g} }
	calls := []func(api.Formula) []api.Formula{
		func(f api.Formula) []api.Formula { return one(rewrite.Simple(f)) },
		func(f api.Formula) []api.Formula { return one(rewrite.Push(f)) },
		func(f api.Formula) []api.Formula { return one(rewrite.Until(f)) },
		func(f api.Formula) []api.Formula { l, _ := rewrite.Parts(f); return l },
	}
	for _, text := range []string{"p", "X (p & q) | X (p & q)", "G (p & X !q) & G (p & X !q)", "p U q <-> !X (p U q)", "X (p & !!X q) U r W X p", "G (G (p W !q) & F p)", "G X G X G (p & q & p & q & p & q & p & q & p & q & p)"} {
		f := read(t, text)
		for i, call := range calls {
			before, again := call(f), call(f)
			checkMemory(t, before, again)
			if show(t, f) != text {
				t.Fatalf("call %d changes or shares %s", i, text)
			}
			if !slices.EqualFunc(again, call(f), ltl.Same) {
				t.Fatalf("call %d of %s: results share memory", i, text)
			}
		}
	}
}

// checkMemory spoils the formulas of a list one by one, and their arguments: those that follow must remain as they are in an equal list.
func checkMemory(t *testing.T, list, equal []api.Formula) {
	t.Helper()
	if len(list) != len(equal) {
		t.Fatalf("%v, and then %v", list, equal)
	}
	for i, g := range list {
		if !ltl.Same(g, equal[i]) {
			t.Fatalf("%v, and then %v", g, equal[i])
		}
		checkMemory(t, g.Args, equal[i].Args)
		spoil(g)
	}
}
