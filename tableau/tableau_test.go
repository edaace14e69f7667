package tableau_test

import (
	"slices"
	"testing"

	"lodesman/api"
	"lodesman/ltl"
	"lodesman/member"
	"lodesman/rewrite"
	"lodesman/tableau"
	"lodesman/truth"
)

// P7.1: the example of the chapter, each operator, and subformulas that occur twice or only negated
func TestWeight(t *testing.T) {
	for text, want := range map[string]int{
		"G F p": 2, "p <-> X p": 2, "true": 0, "false": 0, "p & !q | r": 0, "X p": 1, "F p": 1, "G p": 1, "p U q": 1, "p R q": 1, "p W q": 1,
		"F p & F p": 1, "F p & F q": 2, "F p & !F p": 2, "F p & !G !p": 1, "!X p | X !p": 1, "X X X p": 3, "F p & X F p": 2, "F F p": 2, "G true": 1, "true U p & F p": 2,
		"p W q & !(p W q)": 2, "!(p W q) & (p & !q) U (!p & !q)": 1, "p U q -> !p R !q": 1, "!!F !!p & F p": 1, "G F p <-> G F q": 8, "F (p <-> X q)": 3, "!!(p <-> X p) <-> q": 2,
	} {
		if n, e := tableau.Weight(read(t, text)); n != want || e != api.OK {
			t.Errorf("Weight(%s) = %d, %d", text, n, e)
		}
	}
	if n, e := tableau.Weight(chain(api.Next, 59, prop(5))); n != 59 || e != api.OK {
		t.Errorf("59 times Next: %d, %d", n, e)
	}
}

// P7.1: many formulas, by the definition
func TestWeightDefinition(t *testing.T) {
	g := generator(1)
	for range 3000 {
		f := g.formula(3, g.below(8), 4, 20)
		normal, e := ltl.Nnf(f)
		want := 0
		if e == api.OK {
			subs, _ := ltl.Subs(normal)
			for _, sub := range subs {
				if sub.Op >= api.Next {
					want++
				}
			}
		}
		if n, d := tableau.Weight(f); n != want || d != e {
			t.Fatalf("Weight(%s) = %d, %d", show(f), n, d)
		}
	}
}

// P7.2, P7.3 and P7.6: all formulas with up to four nodes, and all words with up to two letters and some others
func TestModelsSmall(t *testing.T) {
	g := generator(2)
	words := append(smallWords(2, 2), g.words(2, 12)...)
	for _, text := range texts(4) {
		f := read(t, text)
		a, e := tableau.General(f, 2)
		expectShape(t, f, a, e, api.General, 2)
		b, e := tableau.Buchi(f, 2)
		expectShape(t, f, b, e, api.Buchi, 2)
		for _, w := range words {
			want := model(t, f, w)
			expectWord(t, f, a, w, want)
			expectWord(t, f, b, w, want)
		}
	}
}

// P7.2, P7.3 and P7.6: pairs of small temporal formulas, and all words with up to four letters over one proposition
func TestModelsNested(t *testing.T) {
	inner := []string{"p", "!p", "X p", "F p", "G p", "F G p", "G F p", "X !p", "p U X p", "p R X p", "p W X p", "F (p & X p)", "G (p | X p)", "X X p", "p <-> X p", "F !p U G p"}
	words := smallWords(1, 4)
	for _, shape := range infixes {
		for _, outer := range append([]string{""}, prefixes...) {
			for _, text := range joined(shape, inner, inner) {
				f := read(t, outer+"("+text+")")
				a, e := tableau.General(f, 1)
				expectShape(t, f, a, e, api.General, 1)
				b, e := tableau.Buchi(f, 1)
				expectShape(t, f, b, e, api.Buchi, 1)
				for i := len(text) % 3; i < len(words); i += 3 {
					want := model(t, f, words[i])
					expectWord(t, f, a, words[i], want)
					expectWord(t, f, b, words[i], want)
				}
			}
		}
	}
}

// P7.2, P7.3 and P7.6: formulas up to weight 5 over up to three propositions, which never have too many states or edges; most of them have many nodes
func TestModelsHeavy(t *testing.T) {
	g := generator(3)
	weights := make([]int, 6)
	for range 6000 {
		props := g.below(4)
		f := g.formula(props, 1+g.below(5), 1+g.below(6), 1+g.below(25))
		weight, e := tableau.Weight(f)
		if e != api.OK || weight > 5 {
			continue
		}
		weights[weight]++
		n := props + g.below(4-props)
		a, e := tableau.General(f, n)
		expectShape(t, f, a, e, api.General, n)
		b, e := tableau.Buchi(f, n)
		expectShape(t, f, b, e, api.Buchi, n)
		for _, w := range g.words(n, 12) {
			want := model(t, f, w)
			expectWord(t, f, a, w, want)
			expectWord(t, f, b, w, want)
		}
	}
	if slices.Min(weights) < 100 {
		t.Errorf("%v", weights)
	}
}

// P7.2, P7.3 and P7.6: weights and numbers of propositions that do not exclude ErrFull; whatever is returned has the right words
func TestModelsHeavier(t *testing.T) {
	g := generator(4)
	done := 0
	for range 1500 {
		props := g.below(7)
		f := g.formula(props, g.below(20), 1+g.below(6), 1+g.below(40))
		if !ltl.Valid(f, props) {
			continue
		}
		for kind, translate := range []func(api.Formula, int) (api.Automaton, api.Errno){api.Buchi: tableau.Buchi, api.General: tableau.General} {
			a, e := translate(f, props)
			if e == api.ErrFull && zero(a) {
				continue
			}
			expectShape(t, f, a, e, kind, props)
			done++
			for _, w := range g.words(props, 4) {
				expectWord(t, f, a, w, model(t, f, w))
			}
		}
	}
	if done < 500 {
		t.Errorf("%d", done)
	}
}

// P7.2 and P7.3: the largest formulas, and ones with far more states, terms or marks than there may be
func TestLimits(t *testing.T) {
	left, right := prop(0), prop(0)
	for i := range 29 {
		left, right = node(api.Until, left, prop(i%6)), node(api.Until, prop(i%6), right)
	}
	again := prop(0)
	for range 29 {
		again = node(api.Next, node(api.Finally, again))
	}
	for i, c := range []struct {
		f    api.Formula
		fits bool // whether there is an automaton of a moderate size
	}{
		{chain(api.Next, 59, prop(5)), true}, {again, true}, {right, true}, {left, false},
		{node(api.Finally, node(api.And, prop(0), chain(api.Next, 50, prop(1)))), true},
		{node(api.Always, node(api.Or, prop(0), chain(api.Next, 50, prop(1)))), false},
		{node(api.Always, node(api.Iff, prop(0), chain(api.Next, 20, prop(1)))), false},
		{node(api.And, node(api.Always, node(api.Or, prop(0), chain(api.Next, 10, prop(1)))), read(t, "F (r & X s)")), false}, // 3072 states
		{row(api.Until, 30), false}, {row(api.Release, 30), true}, {row(api.And, 30), true}, {chain(api.Not, 58, prop(2)), true},
		{chain(api.Finally, 59, prop(0)), true}, {read(t, "(F p | G q) & (F r | G s) & (F t | G u) & (F q | G p) & (F s | G r) & (F u | G t) & (F !p | G r) & (F !q | G s)"), true},
	} {
		for kind, translate := range []func(api.Formula, int) (api.Automaton, api.Errno){api.Buchi: tableau.Buchi, api.General: tableau.General} {
			a, e := translate(c.f, 6)
			if !c.fits && e == api.ErrFull && zero(a) {
				continue
			}
			expectShape(t, c.f, a, e, kind, 6)
			g := generator(i)
			for _, w := range g.words(6, 4) {
				expectWord(t, c.f, a, w, model(t, c.f, w))
			}
		}
	}
}

// P7.7: no word is missing and none is in both automata
func TestComplement(t *testing.T) {
	g := generator(5)
	for range 2500 {
		props := g.below(3)
		f := g.formula(props, 1+g.below(3), 1+g.below(4), 1+g.below(6))
		opposite, e := ltl.Negate(f)
		if e != api.OK {
			continue
		}
		a, e := tableau.General(f, props)
		b, d := tableau.Buchi(opposite, props)
		if e != api.OK || d != api.OK {
			continue
		}
		for _, w := range g.words(props, 10) {
			is, _ := member.Has(a, w)
			expectWord(t, opposite, b, w, !is)
		}
		both, either := node(api.And, f, opposite), node(api.Or, f, opposite)
		if !ltl.Valid(both, props) {
			continue
		}
		if is, e := tableau.Satisfiable(both, props); is || e != api.OK && e != api.ErrFull {
			t.Fatalf("%s: %t, %d", show(both), is, e)
		}
		if is, e := tableau.Same(either, node(api.True), props); e == api.OK && !is || e != api.OK && e != api.ErrFull {
			t.Fatalf("%s: %t, %d", show(either), is, e)
		}
	}
}

// P7.4: example 2 of the chapter, and other formulas of which the answer is clear
func TestSatisfiable(t *testing.T) {
	for text, want := range map[string]bool{
		"true": true, "false": false, "p": true, "p & !p": false, "X false": false, "F G p & G F !p": false, "F G p & G F p": true, "G F p & G F !p": true, "G (p <-> X !p)": true,
		"G (p -> X p) & p & F !p": false, "p U q & G !q": false, "p W q & G !q": true, "p R q & F !q & G !p": false, "p U (q U r) & G !r": false, "(p U q) U r & G !r": false,
		"X X X p & X X X !p": false, "G F (p & X !p)": true, "G (p -> X !p) & G (!p -> X p) & p & X X !p": false, "F p & F !p & G (p <-> X p)": false, "G X p & F X X !p": false,
		"G (p -> F q) & G !q & F p": false, "(p U q) & !(q | p & X (p U q))": false, "G F p & F G (p -> X !p)": true, "X (p R q) & X !q": false,
	} {
		f := read(t, text)
		for n := 3; n <= 6; n++ {
			if is, e := tableau.Satisfiable(f, n); is != want || e != api.OK {
				t.Errorf("Satisfiable(%s, %d) = %t, %d", text, n, is, e)
			}
			expectWitness(t, f, n, want)
		}
	}
	for n := range 7 {
		if is, e := tableau.Satisfiable(node(api.True), n); !is || e != api.OK {
			t.Errorf("true over %d propositions: %t, %d", n, is, e)
		}
	}
}

// expectWitness checks the result of Witness; it may be ErrFull if the weight is above 3 or n is.
func expectWitness(t *testing.T, f api.Formula, n int, satisfiable bool) {
	t.Helper()
	w, e := tableau.Witness(f, n)
	weight, _ := tableau.Weight(f)
	switch {
	case e == api.ErrFull && (weight > 3 || n > 3) || e == api.ErrNone && !satisfiable:
		if len(w.Stem)+len(w.Loop) > 0 {
			t.Fatalf("Witness(%s, %d) = %v, %d", show(f), n, w, e)
		}
	case e != api.OK || !satisfiable || !model(t, f, w) || slices.Max(w.Loop) >= 1<<n:
		t.Fatalf("Witness(%s, %d) = %v, %d", show(f), n, w, e)
	}
}

// P7.4: small formulas, of which those without a model of up to four letters have none at all
func TestSatisfiableSmall(t *testing.T) {
	for _, text := range texts(3) {
		f := read(t, text)
		_, none := truth.Differ(f, node(api.False), 2, 3)
		is, e := tableau.Satisfiable(f, 2)
		if is != (none == api.OK) || e != api.OK {
			t.Fatalf("Satisfiable(%s) = %t, %d", text, is, e)
		}
		expectWitness(t, f, 2, is)
	}
}

// P7.4: up to weight 5 there is always an answer, and up to weight 3 always a witness
func TestWitness(t *testing.T) {
	g := generator(6)
	found := map[bool]int{}
	for range 6000 {
		props := g.below(3)
		f := g.formula(props, 1+g.below(4), 1+g.below(5), 1+g.below(12))
		f = node(api.And, f, g.formula(props, 1, 3, 4))
		if weight, e := tableau.Weight(f); e != api.OK || weight > 5 {
			continue
		}
		is, e := tableau.Satisfiable(f, props)
		if e != api.OK {
			t.Fatalf("Satisfiable(%s): %d", show(f), e)
		}
		found[is]++
		expectWitness(t, f, props, is)
		for _, w := range g.words(props, 10) {
			if model(t, f, w) && !is {
				t.Fatalf("%s has the model %v", show(f), w)
			}
		}
	}
	if found[true] < 300 || found[false] < 300 {
		t.Errorf("%v", found)
	}
}

// P7.5 and P7.8: equivalences of the document, and formulas that are nearly equivalent
func TestSame(t *testing.T) {
	for _, c := range []struct {
		f, g string
		want bool
	}{
		{"p U q", "q | p & X (p U q)", true}, {"p R q", "q & (p | X (p R q))", true}, {"F p", "true U p", true}, {"G p", "false R p", true}, {"!(p U q)", "!p R !q", true},
		{"p W q", "p U q | G p", true}, {"p W q", "p U q", false}, {"G F p", "!F G !p", true}, {"G F p", "F G p", false}, {"F p", "p | X F p", true}, {"F p", "X F p", false},
		{"G F X p", "G F p", true}, {"F (p | q)", "F p | F q", true}, {"F (p & q)", "F p & F q", false}, {"G (p & q)", "G p & G q", true}, {"G (p | q)", "G p | G q", false},
		{"(p U q) U q", "p U q", true}, {"p U (q U r)", "(p U q) U r", false}, {"X (p U q)", "X p U X q", true}, {"p U F q", "F q", true}, {"G F p & G F q", "G F (p & F q)", true},
		{"p", "p & (q | !q)", true}, {"p", "q", false}, {"true", "false", false}, {"false", "F p & G !p", true}, {"G (p -> X G p)", "G (p -> X p)", true}, {"F G (p & X p)", "F G p", true},
	} {
		f, g := read(t, c.f), read(t, c.g)
		for _, pair := range [][2]api.Formula{{f, g}, {g, f}, {node(api.Not, f), node(api.Not, g)}} {
			if is, e := tableau.Same(pair[0], pair[1], 3); is != c.want || e != api.OK {
				t.Errorf("Same(%s, %s) = %t, %d", show(pair[0]), show(pair[1]), is, e)
			}
		}
	}
}

// P7.5 and P7.8: all pairs of small formulas, whose difference can be seen in a short word
func TestSameSmall(t *testing.T) {
	var list []api.Formula
	for _, text := range texts(3) {
		list = append(list, read(t, text))
	}
	for i, f := range list {
		for k := i % 7; k < i; k += 7 {
			_, e := truth.Differ(f, list[k], 2, 3)
			if is, d := tableau.Same(f, list[k], 2); is != (e == api.ErrNone) || d != api.OK {
				t.Fatalf("Same(%s, %s) = %t, %d", show(f), show(list[k]), is, d)
			}
		}
	}
}

// P7.5 and P7.8: larger formulas; ErrFull only where it is permitted
func TestSameLarge(t *testing.T) {
	g := generator(7)
	found := map[bool]int{}
	for i := range 4000 {
		props := g.below(4)
		f := g.formula(props, 1+g.below(3), 1+g.below(4), 1+g.below(8))
		h := g.formula(props, 1+g.below(2), 1+g.below(3), 1+g.below(4))
		if i%2 == 0 {
			h, _ = ltl.Nnf(f)
		}
		if !ltl.Valid(f, props) || !ltl.Valid(h, props) {
			continue
		}
		different := node(api.Or, node(api.And, f, node(api.Not, h)), node(api.And, node(api.Not, f), h))
		weight, e := tableau.Weight(different)
		small := ltl.Valid(different, props) && e == api.OK && weight <= 5
		is, e := tableau.Same(f, h, props)
		if e != api.OK && (e != api.ErrFull || small || is) {
			t.Fatalf("Same(%s, %s) = %t, %d", show(f), show(h), is, e)
		}
		found[is]++
		for _, w := range g.words(props, 10) {
			if is && model(t, f, w) != model(t, h, w) {
				t.Fatalf("Same(%s, %s), but not on %v", show(f), show(h), w)
			}
		}
		simple, _ := rewrite.Simple(f)
		if is, e := tableau.Same(f, simple, props); !is || e != api.OK {
			t.Fatalf("Same(%s, %s) = %t, %d", show(f), show(simple), is, e)
		}
	}
	if found[true] < 500 || found[false] < 500 {
		t.Errorf("%v", found)
	}
}

// P7.5: formulas that differ, and are too large to be compared in both directions
func TestSameLimits(t *testing.T) {
	huge := chain(api.Next, 59, prop(0))
	other := chain(api.Next, 59, prop(1))
	if is, e := tableau.Same(huge, copied(huge), 6); !is || e != api.OK {
		t.Errorf("the same: %t, %d", is, e)
	}
	if is, e := tableau.Same(huge, other, 6); is || e != api.OK && e != api.ErrFull {
		t.Errorf("different: %t, %d", is, e)
	}
	for _, f := range wideFormulas(t) {
		if is, e := tableau.Same(f, huge, 6); is || e != api.OK && e != api.ErrFull {
			t.Errorf("Same(%s, ..) = %t, %d", show(f), is, e)
		}
		if is, e := tableau.Same(f, f, 3); !is && e != api.ErrFull || is && e != api.OK {
			t.Errorf("Same(%s, %s) = %t, %d", show(f), show(f), is, e)
		}
	}
}

// expectErrors checks what all functions with a parameter n return for one formula.
func expectErrors(t *testing.T, f api.Formula, n int, want api.Errno) {
	t.Helper()
	if a, e := tableau.General(f, n); !zero(a) || e != want {
		t.Errorf("General(%.200v, %d) = %v, %d", f, n, a, e)
	}
	if a, e := tableau.Buchi(f, n); !zero(a) || e != want {
		t.Errorf("Buchi(%.200v, %d) = %v, %d", f, n, a, e)
	}
	if is, e := tableau.Satisfiable(f, n); is || e != want {
		t.Errorf("Satisfiable(%.200v, %d) = %t, %d", f, n, is, e)
	}
	if w, e := tableau.Witness(f, n); len(w.Stem)+len(w.Loop) > 0 || e != want {
		t.Errorf("Witness(%.200v, %d) = %v, %d", f, n, w, e)
	}
	if want == api.ErrFull {
		return
	}
	for _, pair := range [][2]api.Formula{{f, prop(0)}, {prop(0), f}, {f, f}} {
		if is, e := tableau.Same(pair[0], pair[1], n); is || e != want && n > 0 {
			t.Errorf("Same(%.200v, %.200v, %d) = %t, %d", pair[0], pair[1], n, is, e)
		}
	}
}

// All functions: numbers of propositions out of range, before formulas that are not valid, before negation normal forms that are too large
func TestErrors(t *testing.T) {
	for _, f := range badFormulas() {
		if n, e := tableau.Weight(f); n != 0 || e != api.ErrArg {
			t.Errorf("Weight(%.200v) = %d, %d", f, n, e)
		}
		for _, n := range badNumbers() {
			expectErrors(t, f, n, api.ErrRange)
		}
		for n := range 7 {
			expectErrors(t, f, n, api.ErrArg)
		}
	}
	for _, n := range badNumbers() {
		expectErrors(t, prop(0), n, api.ErrRange)
	}
	for n := range 6 {
		expectErrors(t, node(api.Next, prop(n)), n, api.ErrArg)
	}
	for _, f := range wideFormulas(t) {
		if n, e := tableau.Weight(f); n != 0 || e != api.ErrFull {
			t.Errorf("Weight(%s) = %d, %d", show(f), n, e)
		}
		for _, n := range badNumbers() {
			expectErrors(t, f, n, api.ErrRange)
		}
		expectErrors(t, f, 2, api.ErrArg)
		for n := 3; n <= 6; n++ {
			expectErrors(t, f, n, api.ErrFull)
		}
	}
}

// Calls leave their arguments as they are, and equal calls have equal results that share nothing.
func TestEffects(t *testing.T) {
	g := generator(8)
	for range 300 {
		f := g.formula(2, 1+g.below(3), 4, 6)
		before := copied(f)
		a, e := tableau.General(f, 2)
		b, d := tableau.General(f, 2)
		if !identical(a, b) || e != d {
			t.Fatalf("%s: %v and %v", show(f), a, b)
		}
		for i := range a.Edges {
			a.Edges[i] = api.Edge{From: -1}
		}
		for i := range a.Start {
			a.Start[i] = -1
		}
		if c, _ := tableau.General(f, 2); !identical(b, c) || !ltl.Same(f, before) {
			t.Fatalf("%s: %v and %v", show(f), b, c)
		}
		tableau.Weight(f)
		tableau.Buchi(f, 2)
		tableau.Satisfiable(f, 2)
		tableau.Witness(f, 2)
		tableau.Same(f, f, 2)
		if !ltl.Same(f, before) {
			t.Fatalf("%s was %s", show(f), show(before))
		}
	}
}
