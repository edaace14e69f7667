package det_test

import (
	"math"
	"slices"
	"testing"

	"lodesman/api"
	"lodesman/det"
	"lodesman/ltl"
	"lodesman/tableau"
)

// expectOf checks what Of returns for a formula of which it cannot return ErrFull: all its models are words, and no model of its negation is one.
func expectOf(t *testing.T, f api.Formula, n int, words []api.Word) {
	t.Helper()
	a, e := det.Of(f, n)
	if e != api.OK {
		t.Fatalf("Of(%s, %d): %d", show(f), n, e)
	}
	expectShape(t, a, e, api.Parity, n)
	for _, w := range words {
		if want := model(t, f, w); has(t, a, w) != want {
			t.Fatalf("Of(%s, %d) = %v: %v is not %t", show(f), n, a, w, want)
		}
	}
	expectWithin(t, general(t, f, n), a)
	if opposite, e := ltl.Negate(f); e == api.OK {
		if b, e := tableau.General(opposite, n); e == api.OK {
			expectApart(t, b, a)
		}
	}
}

// P10.8: small formulas of all shapes
func TestOfSmall(t *testing.T) {
	leaves := []string{"true", "false", "p", "!q"}
	var inner []string
	for _, a := range leaves {
		inner = append(inner, a, "X "+a, "F "+a, "G "+a)
		for _, b := range leaves[2:] {
			inner = append(inner, "("+a+" U "+b+")", "("+a+" R "+b+")", "("+a+" W "+b+")")
		}
	}
	g := generator(21)
	words := g.words(2, 20)
	for i, a := range inner {
		for _, op := range []string{"!", "X ", "F ", "G ", "F G ", "G F "} {
			expectOf(t, read(t, op+a), 2, words)
		}
		for k, b := range inner {
			for m, op := range []string{" & ", " | ", " -> ", " <-> ", " U ", " R ", " W "} {
				f := read(t, a+op+b)
				if weight, e := tableau.Weight(f); (i+k+m)%3 == 0 && e == api.OK && weight <= 3 {
					expectOf(t, f, 2, words)
				}
			}
		}
	}
}

// P10.8: formulas up to weight 3 over up to three propositions, most of them with many nodes
func TestOfHeavy(t *testing.T) {
	g := generator(22)
	weights := make([]int, 4)
	for range 6000 {
		props := g.below(4)
		f := g.formula(props, 1+g.below(3), 1+g.below(10), 1+g.below(20))
		weight, e := tableau.Weight(f)
		if e != api.OK || weight > 3 {
			continue
		}
		weights[weight]++
		n := props + g.below(4-props)
		expectOf(t, f, n, g.words(n, 5))
	}
	if slices.Min(weights) < 100 {
		t.Errorf("%v", weights)
	}
}

// P10.8: weights and numbers of propositions that do not exclude ErrFull; whatever is returned has the right words
func TestOfHeavier(t *testing.T) {
	g := generator(23)
	done := 0
	for range 800 {
		props := g.below(7)
		f := g.formula(props, g.below(12), 1+g.below(5), 1+g.below(20))
		if !ltl.Valid(f, props) {
			continue
		}
		a, e := det.Of(f, props)
		if e == api.ErrFull && zero(a) {
			continue
		}
		expectShape(t, a, e, api.Parity, props)
		done++
		for _, w := range g.words(props, 5) {
			if want := model(t, f, w); has(t, a, w) != want {
				t.Fatalf("Of(%s, %d) = %v: %v is not %t", show(f), props, a, w, want)
			}
		}
	}
	if done < 300 {
		t.Errorf("%d", done)
	}
}

// P10.8: specifications as they are written, of which an automaton should be found although it need not
func TestOfSpecifications(t *testing.T) {
	g := generator(24)
	for _, text := range []string{
		"G F !p -> G (p -> F q) & G (q -> !p)", "G (p -> F q) & G (r -> F s) & G (t -> F u) & G !(q & s) & G !(q & u) & G !(s & u)", "G F p & G F q -> G F r & G F s", "(G F p -> G F q) & (G F r -> G F s)", "(G F p -> G F q) | (G F r -> G F s)", "G F p <-> G F q",
		"F G p | F G q | F G r | G F s", "G (p -> X q) & G (r -> X X s) -> G (t -> F u)", "!p W q & G (q -> X (!p W r)) & G F q -> F G s", "((((p U q) U r) U s) U t) U u", "G (p -> F (q & F (r & F s)))", "F p & F q & F r & F s & F t & F u", "G F p & G F q & G F r & G F s & G F t & G F u",
	} {
		f := read(t, text)
		a, e := det.Of(f, 6)
		expectShape(t, a, e, api.Parity, 6)
		for _, w := range g.words(6, 20) {
			if want := model(t, f, w); has(t, a, w) != want {
				t.Fatalf("Of(%s) = %v: %v is not %t", text, a, w, want)
			}
		}
	}
}

// Automata that are larger than these are no mistake, but make all that is built on them larger.
func TestOfSizes(t *testing.T) {
	for text, most := range map[string]int{
		"true": 1, "false": 1, "p": 3, "G p": 2, "F p": 2, "p U q": 3, "G F p": 1, "F G p": 1, "F G p & F G q": 1, "G F p & G F q": 2, "F p | G q": 3, "F p & G q": 3, "X X p": 5, "G (p -> F q)": 2, "G (p -> X q)": 3, "F (p & X X q)": 5,
		"F G p | G F q": 3, "G F p -> G F q": 3, "G F p <-> G F q": 8, "G F !p -> G (p -> F q) & G (q -> !p)": 6, "G (p -> F q) -> G (q -> F p)": 2, "(G F p -> G F q) | (G F r -> G F s)": 8, "G (p | X q) & F (r | G s) | t U u": 11,
	} {
		if a, e := det.Of(read(t, text), 6); e != api.OK || a.States > most {
			t.Errorf("%s: %d states, %d", text, a.States, e)
		}
	}
}

// P10.8 and P1: formulas of which there are no small automata, or only much larger ones on the way
func TestOfLimits(t *testing.T) {
	g := generator(25)
	for _, f := range []api.Formula{
		node(api.Finally, node(api.And, prop(0), chain(api.Next, 50, prop(1)))), node(api.Always, node(api.Or, prop(0), chain(api.Next, 20, prop(1)))), node(api.Always, node(api.Finally, node(api.And, prop(0), chain(api.Next, 7, prop(1))))),
		chain(api.Next, 59, prop(5)), chain(api.Finally, 59, prop(0)), read(t, "(F G p | G F q) & (F G r | G F s) & (F G t | G F u) & (F G q | G F r)"), read(t, "(F p | G q) & (F r | G s) & (F t | G u) & (F q | G p) & (F s | G r)"),
	} {
		a, e := det.Of(f, 6)
		if e == api.ErrFull && zero(a) {
			continue
		}
		expectShape(t, a, e, api.Parity, 6)
		for _, w := range g.words(6, 10) {
			if want := model(t, f, w); has(t, a, w) != want {
				t.Fatalf("%s: %v is not %t", show(f), w, want)
			}
		}
	}
}

// P10.8: a formula whose weight cannot be computed, which does not exclude ErrFull
func TestOfWide(t *testing.T) {
	f := prop(0)
	for i := range 12 {
		f = node(api.Iff, f, chain(api.Next, 1, prop(i%3)))
	}
	if _, e := tableau.Weight(f); e != api.ErrFull {
		t.Fatal(e)
	}
	a, e := det.Of(f, 3)
	if e != api.ErrFull || !zero(a) {
		expectShape(t, a, e, api.Parity, 3)
	}
}

// P10.8: numbers of propositions out of range, and formulas that are not valid
func TestOfInvalid(t *testing.T) {
	for _, n := range []int{math.MinInt, -1 << 32, -2, -1, 7, 8, 63, 64, 1 << 40, math.MaxInt} {
		for _, f := range []api.Formula{node(api.True), prop(0), {Op: 99}} {
			if a, e := det.Of(f, n); e != api.ErrRange || !zero(a) {
				t.Errorf("Of(%v, %d) = %v, %d", f, n, a, e)
			}
		}
	}
	for i, f := range badFormulas() {
		for n := range 7 {
			if a, e := det.Of(f, n); e != api.ErrArg || !zero(a) {
				t.Errorf("%d, %d propositions: %v, %d", i, n, a, e)
			}
		}
	}
	for n := range 6 {
		if a, e := det.Of(read(t, "G F "+names[n]), n); e != api.ErrArg || !zero(a) {
			t.Errorf("%d propositions: %v, %d", n, a, e)
		}
		if a, e := det.Of(read(t, "G F "+names[n]), n+1); e != api.OK || !deterministic(a) {
			t.Errorf("%d propositions: %v, %d", n+1, a, e)
		}
	}
}

// P2 and rule 6: the same result each time, with memory of its own
func TestOfMemory(t *testing.T) {
	g := generator(26)
	for range 200 {
		f := g.formula(2, 1+g.below(3), 3, 5)
		if weight, e := tableau.Weight(f); e != api.OK || weight > 3 {
			continue
		}
		text := show(f)
		first, _ := det.Of(f, 2)
		kept := copied(first)
		for k := range first.Edges {
			first.Edges[k] = api.Edge{From: 77}
		}
		if second, e := det.Of(f, 2); e != api.OK || !identical(kept, second) || show(f) != text {
			t.Fatalf("%s: %v and %v, %d", text, kept, second, e)
		}
	}
}
