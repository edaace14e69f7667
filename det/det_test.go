package det_test

import (
	"slices"
	"testing"

	"lodesman/api"
	"lodesman/det"
	"lodesman/ltl"
	"lodesman/shape"
	"lodesman/tableau"
)

// expectDet checks what Det returns for an automaton of which it cannot return ErrFull.
func expectDet(t *testing.T, a api.Automaton, words []api.Word) api.Automaton {
	t.Helper()
	b, e := det.Det(a)
	expectShape(t, b, e, api.Parity, a.Props)
	expectWords(t, a, b, words)
	return b
}

// P10.1, P10.5 and P10.6: all automata with two states over one proposition, and all words with up to two letters in front of up to three
func TestDetSmall(t *testing.T) {
	words := append(smallWords(0, 3), smallWords(2, 2)...)
	words = append(words, smallWords(1, 3)...)
	for _, a := range pairs(api.Buchi) {
		b := expectDet(t, a, words)
		expectWithin(t, a, b)
	}
}

// P10.1, P10.5 and P10.6: up to three states that are live, over all numbers of propositions
func TestDetThree(t *testing.T) {
	g := generator(1)
	for i := range 2500 {
		props, states, marks := g.below(7), 1+g.below(3), 1
		if i%2 == api.General {
			marks = 3/states - 1
		}
		a := g.automaton(i%2, props, states, g.below(40), marks)
		if i%4 >= 2 {
			a = g.scattered(i%2, props, states, marks)
		}
		b := expectDet(t, a, g.words(props, 8))
		expectWithin(t, a, b)
	}
}

// P10.1: many states of which Trim keeps few: others cannot be reached, or lead nowhere
func TestDetTrimmed(t *testing.T) {
	g := generator(2)
	for i := range 300 {
		props := g.below(3)
		a := g.automaton(i%2, props, 1+g.below(3), g.below(20), 0)
		first := a.States
		dead, away := first+40, first+50
		a.States = away
		for range 300 {
			from := g.below(dead - 1)
			a.Edges = append(a.Edges, api.Edge{From: from, To: max(from+1, first) + g.below(dead-max(from+1, first))})
			a.Edges = append(a.Edges, api.Edge{From: dead + g.below(10), To: g.below(away)})
		}
		a.Edges = slices.DeleteFunc(a.Edges, func(e api.Edge) bool { return e.To >= dead && e.From < dead })
		a.Start = append(a.Start, first+g.below(40))
		if b, e := shape.Trim(a); b.States > 3 || e != api.OK {
			t.Fatalf("%d states, %d", b.States, e)
		}
		expectDet(t, a, g.words(props, 10))
	}
}

// P10.1: more states than are sure to be possible; whatever is returned has the right words
func TestDetMore(t *testing.T) {
	g := generator(3)
	done := 0
	for i := range 700 {
		props, states := g.below(4), 3+g.below(6)
		a := g.automaton(i%2, props, states, states+g.below(3*states), 2)
		b, e := det.Det(a)
		if e == api.ErrFull && zero(b) {
			continue
		}
		expectShape(t, b, e, api.Parity, props)
		expectWords(t, a, b, g.words(props, 12))
		done++
	}
	if done < 300 {
		t.Errorf("%d", done)
	}
}

// P10.1: deterministic automata, whose words can be compared completely
func TestDetDeterministic(t *testing.T) {
	g := generator(4)
	for i := range 1000 {
		props, states := g.below(4), 1+g.below(8)
		a := g.single(i%2, props, states, max(1-i%2, g.below(5)*(i%2)))
		b := expectDet(t, a, g.words(props, 6))
		expectWithin(t, a, b)
		expectWithin(t, b, a)
	}
}

// P10.1: deterministic automata of which the states, times the marks and two, are just as many as are sure to be possible
func TestDetLimits(t *testing.T) {
	g := generator(5)
	for _, c := range []struct{ kind, props, states, marks int }{
		{api.Buchi, 5, 333, 1}, {api.Buchi, 6, 208, 1}, {api.General, 5, 500, 0}, {api.General, 6, 312, 0}, {api.General, 5, 23, 40}, {api.General, 6, 14, 40}, {api.General, 5, 100, 8}, {api.General, 6, 125, 3}, {api.General, 0, 47, 19},
	} {
		for range 3 {
			a := api.Automaton{Props: c.props, States: c.states, Start: []int{0}, Kind: c.kind, Marks: c.marks}
			for s := range c.states {
				for l := range 1 << c.props {
					if to := g.below(c.states); g.below(50) > 0 {
						a.Edges = append(a.Edges, api.Edge{From: s, To: to, Care: 1<<c.props - 1, Bits: l, Marks: g.marks(c.marks, 1)})
					}
				}
			}
			expectDet(t, a, g.words(c.props, 10))
			chain := ring(c.kind, c.marks, c.props, c.states)
			expectDet(t, chain, g.words(c.props, 4))
			expectDet(t, changed(func(b *api.Automaton) {
				*b = chain
				b.Edges = b.Edges[:len(b.Edges)-1]
			}), g.words(c.props, 2))
		}
	}
}

// P10.1, P10.5: formulas, whose negations have exactly the other words
func TestDetFormulas(t *testing.T) {
	g := generator(6)
	done := 0
	for range 500 {
		props := 1 + g.below(2)
		f := g.formula(props, 1+g.below(3), 4, 6)
		opposite, e := ltl.Negate(f)
		if weight, d := tableau.Weight(f); e != api.OK || d != api.OK || weight > 3 {
			continue
		}
		a := general(t, f, props)
		b, e := det.Det(a)
		if e == api.ErrFull && a.States*(a.Marks+1) > 3 {
			continue
		}
		expectShape(t, b, e, api.Parity, props)
		expectWithin(t, a, b)
		other, e := tableau.General(opposite, props)
		if e == api.OK {
			expectApart(t, other, b)
			done++
		}
	}
	if done < 200 {
		t.Errorf("%d", done)
	}
}

// P10.1: automata without words, states, Start states, edges or marks, and with several Start states
func TestDetCases(t *testing.T) {
	words := append(smallWords(1, 2), smallWords(0, 3)...)
	for _, a := range []api.Automaton{
		{Props: 1, Marks: 1}, {Props: 1, Kind: api.General}, {Props: 1, Kind: api.General, Marks: 40}, {Props: 1, States: 3000, Marks: 1}, {Props: 1, States: 1, Start: []int{0}, Kind: api.General},
		{Props: 1, States: 2, Start: []int{0, 1}, Kind: api.General, Edges: []api.Edge{{Care: 1}, {From: 1, To: 1, Care: 1, Bits: 1}}},
		{Props: 1, States: 2, Start: []int{0, 1}, Marks: 1, Edges: []api.Edge{{To: 1, Marks: 1}, {From: 1}}},
		{Props: 1, States: 1, Start: []int{0}, Kind: api.General, Edges: []api.Edge{{}}}, {Props: 1, States: 1, Start: []int{0}, Kind: api.General, Edges: []api.Edge{{}, {}, {Care: 1}}},
		{Props: 1, States: 1, Start: []int{0}, Kind: api.General, Marks: 2, Edges: []api.Edge{{Marks: 1}, {Care: 1, Marks: 2}, {Care: 1, Bits: 1, Marks: 1}}},
		again(), changed(func(a *api.Automaton) { a.Start = nil }), changed(func(a *api.Automaton) { a.Edges = nil }), changed(func(a *api.Automaton) { a.Edges = append(a.Edges, a.Edges...) }),
		changed(func(a *api.Automaton) { a.Edges[0].Marks = 0 }), changed(func(a *api.Automaton) { a.Edges[0] = a.Edges[1] }),
	} {
		expectDet(t, a, words)
	}
	for _, kind := range []int{api.CoBuchi, api.Rabin, api.Streett, api.Parity} {
		for _, a := range []api.Automaton{ring(kind, 1+kind/3%2, 2, 2), crowd(kind, 1+kind/3%2, 6, func(int) int { return 1 })} {
			if kind == api.Parity {
				a.Marks = 2
			}
			if b, e := det.Det(a); e != api.ErrKind || !zero(b) {
				t.Errorf("kind %d: %d", kind, e)
			}
		}
	}
}

// P1: automata with as many states and edges as are permitted, and others with very many trees
func TestDetLarge(t *testing.T) {
	g := generator(7)
	for _, a := range []api.Automaton{
		crowd(api.Buchi, 1, 6, func(i int) int { return i / 3000 % 2 }), crowd(api.General, 40, 3, func(i int) int { return 1 << (i % 40) }), crowd(api.General, 0, 0, func(int) int { return 0 }), ring(api.General, 40, 6, 3000), ring(api.Buchi, 1, 0, 3000),
		g.automaton(api.Buchi, 3, 3000, 40000, 1), g.automaton(api.General, 6, 200, 2000, 4), g.automaton(api.Buchi, 2, 40, 160, 1), delayed(api.Buchi, 1, 1, 40), delayed(api.Buchi, 1, 3, 9), g.scattered(api.Buchi, 6, 12, 1), g.scattered(api.General, 6, 4, 40),
	} {
		b, e := det.Det(a)
		if e == api.ErrFull && zero(b) {
			continue
		}
		expectShape(t, b, e, api.Parity, a.Props)
		expectWords(t, a, b, g.words(a.Props, 3))
	}
}

// Example 1 of the chapter
func TestDetExample(t *testing.T) {
	a := api.Automaton{Props: 1, States: 2, Start: []int{0}, Marks: 1, Edges: []api.Edge{{}, {To: 1, Care: 1, Bits: 1}, {From: 1, To: 1, Care: 1, Bits: 1, Marks: 1}}}
	b := expectDet(t, a, append(smallWords(2, 3), smallWords(1, 2)...))
	f := read(t, "F G p")
	expectWithin(t, general(t, f, 1), b)
	expectApart(t, general(t, read(t, "G F !p"), 1), b)
}

// P10.2, P10.5 and P10.6: all automata with two states over one proposition
func TestBreakpointSmall(t *testing.T) {
	words := append(smallWords(0, 3), smallWords(2, 2)...)
	for _, a := range pairs(api.CoBuchi) {
		b, e := det.Breakpoint(a)
		expectShape(t, b, e, api.CoBuchi, 1)
		expectWithin(t, a, b)
		expectWords(t, a, b, words)
	}
}

// P10.2, P10.5 and P10.6: up to five states, over all numbers of propositions; and more, of which ErrFull is permitted
func TestBreakpoint(t *testing.T) {
	g := generator(8)
	for i := range 1500 {
		props, states := g.below(7), 1+g.below(5)
		a := g.automaton(api.CoBuchi, props, states, g.below(30), 1)
		if i%3 == 0 {
			a = g.scattered(api.CoBuchi, props, states, 1)
		}
		b, e := det.Breakpoint(a)
		expectShape(t, b, e, api.CoBuchi, props)
		expectWords(t, a, b, g.words(props, 8))
	}
	for _, a := range []api.Automaton{
		delayed(api.CoBuchi, 1, 1, 11), delayed(api.CoBuchi, 1, 1, 40), crowd(api.CoBuchi, 1, 6, func(i int) int { return i % 2 }), ring(api.CoBuchi, 1, 3, 3000), g.automaton(api.CoBuchi, 2, 12, 60, 1), g.automaton(api.CoBuchi, 4, 2000, 40000, 1), g.scattered(api.CoBuchi, 6, 9, 1),
		{Props: 2, Kind: api.CoBuchi, Marks: 1}, {Props: 2, States: 5, Kind: api.CoBuchi, Marks: 1}, {Props: 2, States: 1, Start: []int{0}, Kind: api.CoBuchi, Marks: 1},
	} {
		b, e := det.Breakpoint(a)
		if e == api.ErrFull && zero(b) && a.States > 5 {
			continue
		}
		expectShape(t, b, e, api.CoBuchi, a.Props)
		expectWords(t, a, b, g.words(a.Props, 5))
	}
	for _, kind := range []int{api.Buchi, api.General, api.Rabin, api.Streett, api.Parity} {
		a := ring(kind, 2, 2, 2)
		if kind == api.Buchi {
			a = again()
		}
		if b, e := det.Breakpoint(a); e != api.ErrKind || !zero(b) {
			t.Errorf("kind %d: %d", kind, e)
		}
	}
}

// P10.3: the definition, for automata of all kinds
func TestSubset(t *testing.T) {
	g := generator(9)
	for i := range 1500 {
		kind, props, states := kinds[i%6], g.below(5), 1+g.below(6)
		a := g.automaton(kind, props, states, g.below(30), 3)
		if i%4 == 0 {
			a.Start = nil
		}
		if b, e := det.Subset(a); e != api.OK || !identical(b, subset(a)) {
			t.Fatalf("Subset(%v) = %v, %d", a, b, e)
		}
	}
	for props := range 7 {
		a := api.Automaton{Props: props, Kind: api.Parity}
		if b, e := det.Subset(a); e != api.OK || !identical(b, subset(a)) || b.States != 1 || len(b.Edges) != 1<<props {
			t.Errorf("%v, %d", b, e)
		}
	}
}

// P10.3: exactly as many sets and edges as there may be, and one more
func TestSubsetLimits(t *testing.T) {
	path := func(props, states int) api.Automaton {
		a := ring(api.General, 0, props, states)
		a.Edges = a.Edges[:states-1]
		return a
	}
	for _, c := range []struct {
		a    api.Automaton
		want int // the number of sets; 0 if there are too many of them or of their edges
	}{
		{ring(api.Streett, 0, 6, 625), 625}, {ring(api.Streett, 0, 6, 626), 0}, {path(6, 624), 625}, {path(6, 625), 0}, {ring(api.Streett, 0, 5, 1250), 1250}, {ring(api.Streett, 0, 5, 1251), 0}, {ring(api.Streett, 0, 4, 2500), 2500}, {ring(api.Streett, 0, 4, 2501), 0},
		{ring(api.Streett, 0, 3, 3000), 3000}, {path(3, 2999), 3000}, {path(3, 3000), 0}, {path(0, 2999), 3000}, {path(0, 3000), 0}, {ring(api.General, 0, 0, 3000), 3000},
		{delayed(api.Buchi, 1, 1, 12), 4096 / 2}, {delayed(api.Buchi, 1, 1, 13), 0}, {delayed(api.Buchi, 1, 1, 3000), 0}, {crowd(api.Buchi, 1, 6, func(int) int { return 1 }), 0},
	} {
		b, e := det.Subset(c.a)
		if c.want == 0 && (e != api.ErrFull || !zero(b)) || c.want > 0 && (e != api.OK || b.States != c.want || len(b.Edges) != c.want<<c.a.Props) {
			t.Errorf("%d states over %d propositions: %d sets, %d", c.a.States, c.a.Props, b.States, e)
		}
	}
}

// expectSafe checks what Safe returns for an automaton of which it cannot return ErrFull.
func expectSafe(t *testing.T, a api.Automaton, words []api.Word) {
	t.Helper()
	b, e := det.Safe(a)
	if e != api.OK || !deterministic(b) || b.Kind != api.General || b.Marks != 0 || b.Props != a.Props {
		t.Fatalf("Safe(%v) = %v, %d", a, b, e)
	}
	for _, w := range words {
		if want := extends(a, w); has(t, b, w) != want {
			t.Fatalf("Safe(%v) = %v: %v is not %t", a, b, w, want)
		}
	}
	c, e := det.Safe(b)
	if e == api.ErrFull && b.States > 8 {
		return
	}
	if e != api.OK || b.States*c.States > 2500 {
		t.Fatalf("Safe(%v) = %v, %d", b, c, e)
	}
	expectWithin(t, b, c)
	expectWithin(t, c, b)
}

// P10.4 and P10.7: automata of all kinds with up to eight states
func TestSafe(t *testing.T) {
	g := generator(10)
	for i := range 1800 {
		props := g.below(4)
		a := g.automaton(kinds[i%6], props, 1+g.below(5), g.below(14), 3)
		expectSafe(t, a, g.words(props, 6))
		if b, _ := det.Safe(a); b.States < 20 {
			expectWithin(t, a, b)
		}
	}
	for _, kind := range kinds {
		for _, a := range []api.Automaton{{Props: 2, Kind: kind}, {Props: 2, States: 8, Start: []int{1, 7}, Kind: kind}, {Props: 2, States: 1, Start: []int{0}, Kind: kind, Edges: []api.Edge{{}}}} {
			if kind == api.Buchi || kind == api.CoBuchi {
				a.Marks = 1
			}
			expectSafe(t, a, g.words(2, 3))
		}
	}
}

// P10.4: eight states with as many sets as possible, and more states, of which ErrFull is permitted
func TestSafeLimits(t *testing.T) {
	g := generator(11)
	expectSafe(t, delayed(api.Buchi, 1, 2, 5), g.words(2, 10))
	for i, a := range []api.Automaton{
		g.scattered(api.General, 6, 8, 0), g.scattered(api.General, 6, 8, 0), g.scattered(api.Buchi, 6, 8, 1), delayed(api.Buchi, 1, 1, 8), delayed(api.General, 0, 6, 8),
		delayed(api.Buchi, 1, 1, 12), delayed(api.Buchi, 1, 2, 30), ring(api.General, 40, 6, 3000), crowd(api.General, 1, 6, func(int) int { return 1 }), crowd(api.Parity, 3, 2, func(i int) int { return 1 << (i % 3) }), g.automaton(api.Streett, 3, 3000, 9000, 6), g.automaton(api.Rabin, 1, 20, 60, 6),
	} {
		b, e := det.Safe(a)
		if e == api.ErrFull && zero(b) && a.States > 8 {
			continue
		}
		if e != api.OK || !deterministic(b) || b.Kind != api.General || b.Marks != 0 {
			t.Fatalf("%d: %s, %d", i, brief(b), e)
		}
		for _, w := range g.words(a.Props, 5) {
			if has(t, a, w) && !has(t, b, w) {
				t.Errorf("%d: %v", i, w)
			}
		}
	}
}

// Example 2 of the chapter, and formulas that are safe themselves
func TestSafeFormulas(t *testing.T) {
	g := generator(12)
	for text, safe := range map[string]string{
		"p & F q": "p", "G p": "G p", "F p": "true", "G F p": "true", "p U q": "p W q", "G (p -> F q)": "true", "G (p -> X q)": "G (p -> X q)", "p U q & G (p | q)": "p W q & G (p | q)", "F p & G (p -> G q) & X !q": "!p & X !q & X !p & G (p -> G q)",
		"false": "false", "F G p & G F !p": "false", "p R q": "p R q", "G p | F G q": "true", "X X !p & G F p": "X X !p",
	} {
		b, e := det.Safe(general(t, read(t, text), 2))
		if e != api.OK {
			t.Fatalf("%s: %d", text, e)
		}
		for _, w := range g.words(2, 60) {
			if has(t, b, w) != model(t, read(t, safe), w) {
				t.Errorf("Safe of %s: %v", text, w)
			}
		}
	}
}

// P10.1 to P10.4: automata that are not valid
func TestInvalid(t *testing.T) {
	for i, a := range invalid() {
		for name, call := range map[string]func(api.Automaton) (api.Automaton, api.Errno){"Det": det.Det, "Breakpoint": det.Breakpoint, "Subset": det.Subset, "Safe": det.Safe} {
			if b, e := call(a); e != api.ErrArg || !zero(b) {
				t.Errorf("%s, %d: %d", name, i, e)
			}
		}
	}
}

// P2 and rule 6: the same result each time, arguments as they were, and no memory in common
func TestMemory(t *testing.T) {
	g := generator(13)
	for i := range 400 {
		a := g.automaton(i%2, 2, 1+g.below(3), g.below(12), 0)
		if i%3 == 0 {
			a = g.single(i%2, 2, 1+g.below(4), 1)
		}
		c := copied(a)
		c.Kind, c.Marks = api.CoBuchi, 1
		oldA, oldC := copied(a), copied(c)
		for _, call := range []func() (api.Automaton, api.Errno){
			func() (api.Automaton, api.Errno) { return det.Det(a) }, func() (api.Automaton, api.Errno) { return det.Breakpoint(c) },
			func() (api.Automaton, api.Errno) { return det.Subset(a) }, func() (api.Automaton, api.Errno) { return det.Safe(a) },
		} {
			first, _ := call()
			kept := copied(first)
			for k := range first.Edges {
				first.Edges[k] = api.Edge{From: 77}
			}
			for k := range first.Start {
				first.Start[k] = 77
			}
			second, e := call()
			if e != api.OK || !identical(kept, second) || !identical(a, oldA) || !identical(c, oldC) {
				t.Fatalf("%v and %v, %d", kept, second, e)
			}
		}
	}
}
