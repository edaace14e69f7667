package index_test

import (
	"testing"

	"lodesman/api"
	"lodesman/aut"
	"lodesman/index"
)

// expectRanked checks what Parity and Complement return for an automaton of which they cannot return ErrFull, by some words.
func expectRanked(t *testing.T, a api.Automaton, words []api.Word) (p, c api.Automaton) {
	t.Helper()
	before := copied(a)
	p, e := index.Parity(a)
	expectShape(t, p, e, a.Props)
	c, e = index.Complement(a)
	expectShape(t, c, e, a.Props)
	if !identical(a, before) {
		t.Fatalf("%s has become %s", brief(before), brief(a))
	}
	for _, w := range words {
		want := has(t, a, w)
		if has(t, p, w) != want || has(t, c, w) == want {
			t.Fatalf("%s, %s, %s: %v is not %t", brief(a), brief(p), brief(c), w, want)
		}
	}
	return p, c
}

// P11.1, P11.2 and P11.6: deterministic automata of all kinds, complete or not, by words and completely
func TestParity(t *testing.T) {
	g := generator(1)
	yes, no := 0, 0
	for i := range 6000 {
		kind, props := kinds[i%6], g.below(4)
		a := g.single(kind, props, 1+g.below(6), g.marksOf(kind, 6), g.below(2)*(2+g.below(8)))
		if g.below(20) == 0 {
			a.Start = nil
		}
		words := g.words(props, 6)
		p, c := expectRanked(t, a, words)
		full, e := aut.Fill(a)
		if e != api.OK || !within(t, a, p) || !within(t, p, full) || !within(t, c, raised(p)) || !within(t, raised(p), c) {
			t.Fatalf("%v: %v and %v", a, p, c)
		}
		for _, w := range words {
			if has(t, a, w) {
				yes++
			} else {
				no++
			}
		}
	}
	if yes < 5000 || no < 5000 {
		t.Errorf("%d, %d", yes, no)
	}
}

// P11.1 and P11.2: no states, no Start states, no marks, all marks
func TestParityCases(t *testing.T) {
	words := []api.Word{{Loop: []int{0}}, {Loop: []int{1}}, {Stem: []int{1}, Loop: []int{0, 1}}, {Stem: []int{0}, Loop: []int{1}}}
	for _, kind := range kinds {
		for _, marks := range []int{0, 1, 2, 8, 30, 40} {
			if kind == api.Buchi || kind == api.CoBuchi {
				marks = 1
			}
			if kind == api.Rabin || kind == api.Streett {
				marks = min(marks+marks%2, 8)
			}
			all := 1<<marks - 1
			one := api.Automaton{Props: 1, States: 1, Start: []int{0}, Kind: kind, Marks: marks}
			expectRanked(t, api.Automaton{Props: 1, Kind: kind, Marks: marks}, words)
			expectRanked(t, one, words)
			for _, edges := range [][]api.Edge{
				{{}}, {{Marks: all}}, {{Care: 1}}, {{Care: 1, Marks: all}}, {{Care: 1, Marks: all}, {Care: 1, Bits: 1}}, {{Care: 1, Marks: all / 2}, {Care: 1, Bits: 1, Marks: all}}, {{Care: 1, Marks: all / 3}, {Care: 1, Bits: 1, Marks: all &^ (all / 3)}},
			} {
				one.Edges = edges
				expectRanked(t, one, words)
				none := copied(one)
				none.Start = nil
				expectRanked(t, none, words)
			}
		}
	}
}

// dense makes an automaton of which each state has an edge for each letter; if some are missing, few of them.
func (g *generator) dense(kind, props, states, marks int, missing bool) api.Automaton {
	a := api.Automaton{Props: props, States: states, Start: []int{0}, Kind: kind, Marks: marks}
	for s := range states {
		for l := range 1 << props {
			if missing && s%50 == 7 && l == 0 {
				continue
			}
			a.Edges = append(a.Edges, api.Edge{From: s, To: (s + 1 + g.below(2)*g.below(states)) % states, Care: 1<<props - 1, Bits: l, Marks: g.marks(marks, 1+g.below(6))})
		}
	}
	return a
}

// P11.1 and P11.2: as many states, marks and edges as there may be without ErrFull
func TestParityLimits(t *testing.T) {
	g := generator(2)
	for _, c := range []struct{ kind, props, states, marks int }{
		{api.Buchi, 5, 999, 1}, {api.CoBuchi, 5, 999, 1}, {api.Parity, 5, 999, 30}, {api.Parity, 6, 624, 30}, {api.Buchi, 6, 624, 1}, {api.CoBuchi, 0, 999, 1},
		{api.General, 5, 31, 30}, {api.General, 5, 99, 9}, {api.General, 5, 499, 1}, {api.General, 6, 124, 4}, {api.General, 5, 999, 0}, {api.General, 1, 332, 2},
		{api.Rabin, 5, 40, 8}, {api.Streett, 5, 40, 8}, {api.Rabin, 6, 25, 8}, {api.Streett, 6, 25, 8}, {api.Rabin, 5, 165, 6}, {api.Streett, 5, 165, 6}, {api.Rabin, 5, 999, 2}, {api.Streett, 5, 999, 0}, {api.Rabin, 6, 624, 0}, {api.Streett, 6, 311, 4},
	} {
		for _, missing := range []bool{true, false} {
			a := g.dense(c.kind, c.props, c.states, c.marks, missing)
			expectRanked(t, a, g.words(c.props, 12))
		}
	}
}

// P11.1 and P11.2: more than that; what is returned has the right words, and ErrFull comes alone
func TestParityFull(t *testing.T) {
	g := generator(3)
	full := 0
	for _, c := range []struct{ kind, props, states, marks int }{
		{api.Buchi, 0, 3000, 1}, {api.CoBuchi, 3, 3000, 1}, {api.Parity, 2, 3000, 40}, {api.Parity, 1, 20, 40}, {api.General, 2, 3000, 40}, {api.General, 2, 100, 40}, {api.General, 6, 300, 5}, {api.General, 2, 3000, 0},
		{api.Rabin, 2, 300, 8}, {api.Streett, 2, 300, 8}, {api.Rabin, 2, 5, 40}, {api.Streett, 2, 5, 40}, {api.Rabin, 6, 60, 40}, {api.Streett, 1, 1, 40}, {api.Rabin, 1, 1, 40}, {api.Rabin, 0, 3, 40}, {api.Streett, 0, 3, 40}, {api.Streett, 0, 3000, 2}, {api.Streett, 2, 50, 10}, {api.Rabin, 2, 50, 10},
	} {
		for _, missing := range []bool{true, false} {
			a := g.dense(c.kind, c.props, c.states, c.marks, missing)
			for _, opposite := range []bool{false, true} {
				call := index.Parity
				if opposite {
					call = index.Complement
				}
				b, e := call(a)
				if e == api.ErrFull && zero(b) {
					full++
					continue
				}
				expectShape(t, b, e, a.Props)
				for _, w := range g.words(c.props, 5) {
					if has(t, b, w) != (has(t, a, w) != opposite) {
						t.Fatalf("%v: %v, %t", c, w, opposite)
					}
				}
			}
		}
	}
	if full < 10 {
		t.Errorf("%d", full)
	}
}

// P11.1 and P11.2: each mark of Kind Parity is needed, and for the other words one more than there may be
func TestParityTower(t *testing.T) {
	g := generator(5)
	for marks := 28; marks <= api.MaxMarks; marks++ {
		tower := api.Automaton{Props: 1, States: marks + 1, Start: []int{0}, Kind: api.Parity, Marks: marks}
		for s := range tower.States {
			tower.Edges = append(tower.Edges, api.Edge{From: s, To: min(s+1, marks), Care: 1, Marks: 1 << s >> 1}, api.Edge{From: s, To: max(s-1, 0), Care: 1, Bits: 1, Marks: 1 << s >> 1})
		}
		if c, e := index.Complement(tower); marks == api.MaxMarks && e == api.ErrFull && zero(c) {
			p, e := index.Parity(tower)
			expectShape(t, p, e, 1)
			continue
		}
		p, _ := expectRanked(t, tower, g.words(1, 20))
		if p.Marks != marks {
			t.Errorf("%d of %d", p.Marks, marks)
		}
	}
}

// P11.1 and P11.2: automata that Fill refuses, and invalid ones
func TestParityErrors(t *testing.T) {
	expect := func(a api.Automaton, want api.Errno) {
		t.Helper()
		p, e := index.Parity(a)
		c, f := index.Complement(a)
		if e != want || f != want || !zero(p) || !zero(c) {
			t.Errorf("%s: %s, %d and %s, %d", brief(a), brief(p), e, brief(c), f)
		}
	}
	for _, a := range invalid() {
		expect(a, api.ErrArg)
	}
	for _, kind := range kinds {
		for _, edges := range [][]api.Edge{{{}, {To: 1, Care: 1}}, {{Care: 1}, {Care: 2, Bits: 2}}, {{From: 1, To: 1}, {From: 1, To: 1}}} {
			a := api.Automaton{Props: 2, States: 2, Start: []int{0}, Kind: kind, Edges: edges}
			if kind == api.Buchi || kind == api.CoBuchi {
				a.Marks = 1
			}
			expect(a, api.ErrKind)
			a.Start = nil
			expect(a, api.ErrKind)
			a.Edges, a.Start = []api.Edge{{}}, []int{0, 1}
			expect(a, api.ErrKind)
			a.Props, a.States, a.Edges = 1, 3000, []api.Edge{{Care: 1}, {Care: 1, Bits: 1, To: 7}, {Care: 1}}
			expect(a, api.ErrKind)
		}
	}
}

// P11.1 and P11.2: equal arguments yield equal results, which share no memory
func TestParityMemory(t *testing.T) {
	g := generator(4)
	for i := range 300 {
		kind := kinds[i%6]
		a := g.single(kind, 2, 1+g.below(4), g.marksOf(kind, 4), g.below(2)*5)
		for _, call := range []func(api.Automaton) (api.Automaton, api.Errno){index.Parity, index.Complement} {
			before := copied(a)
			b, _ := call(a)
			c, _ := call(a)
			if !identical(b, c) {
				t.Fatalf("%v: %v and %v", a, b, c)
			}
			kept := copied(c)
			b.Start[0] = 99
			for k := range b.Edges {
				b.Edges[k].Marks = 99
			}
			if !identical(a, before) || !identical(c, kept) {
				t.Fatalf("%v: %v and %v", a, b, c)
			}
		}
	}
}

// The examples of the chapter, and P11.7
func TestExamples(t *testing.T) {
	d, e := index.Dual(again())
	if e != api.OK || d.Kind != api.CoBuchi {
		t.Fatalf("%v, %d", d, e)
	}
	c, e := index.Complement(again())
	expectShape(t, c, e, 1)
	if !within(t, d, c) || !within(t, c, d) {
		t.Errorf("%v and %v", c, d)
	}
	for _, w := range []api.Word{{Loop: []int{0}}, {Loop: []int{1}}, {Loop: []int{0, 1}}, {Stem: []int{1, 1}, Loop: []int{0}}} {
		want := w.Loop[len(w.Loop)-1] == 0
		if has(t, d, w) != want || has(t, c, w) != want {
			t.Errorf("%v", w)
		}
	}
}
