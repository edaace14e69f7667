package shape_test

import (
	"slices"
	"testing"

	"lodesman/api"
	"lodesman/aut"
	"lodesman/shape"
)

// samples are automata of a kind: with any edges, deterministic ones, and ones with states that are alike.
func samples(seed uint32, kind, count int) []api.Automaton {
	g := generator(seed + 100*uint32(kind))
	var list []api.Automaton
	for range count {
		props, states := g.below(3), 1+g.below(5)
		list = append(list,
			g.automaton(kind, props, states, g.below(4*states), 4),
			g.single(kind, props, states+2, 4),
			g.twins(kind, props, 1+g.below(3), 2+g.below(6), 2, 3))
	}
	return append(list, api.Automaton{Kind: kind, Marks: map[int]int{api.Buchi: 1, api.CoBuchi: 1}[kind]})
}

// P8.1, P8.7 and P8.8
func TestTrim(t *testing.T) {
	for _, kind := range kinds {
		kept, dropped := 0, 0
		for i, a := range samples(1, kind, 300) {
			b, e := shape.Trim(a)
			if e != api.OK || !identical(b, trim(a)) {
				t.Fatalf("Trim(%v) = %v, %d", a, b, e)
			}
			kept, dropped = kept+b.States, dropped+a.States-b.States
			if slices.Contains(live(b), false) || slices.Contains(useful(b), false) {
				t.Fatalf("Trim(%v) = %v", a, b)
			}
			if c, e := shape.Trim(b); !identical(b, c) || e != api.OK {
				t.Fatalf("Trim(%v) = %v", b, c)
			}
			g := generator(i)
			expectWords(t, a, b, g.words(a.Props, 10))
		}
		if kept < 300 || dropped < 300 {
			t.Errorf("kind %d: %d kept, %d dropped", kind, kept, dropped)
		}
	}
}

// P8.1: states in front of which there are only states that are not live, and Start states that are not live
func TestTrimCases(t *testing.T) {
	a := api.Automaton{Props: 1, States: 6, Start: []int{0, 1, 4}, Marks: 1, Edges: []api.Edge{
		{From: 3, To: 3, Marks: 1}, {From: 0, To: 0}, {From: 1, To: 3, Care: 1, Bits: 1}, {From: 1, To: 2}, {From: 5, To: 3}, {From: 1, To: 1}, {From: 4, To: 4}, {From: 1, To: 3, Care: 1, Bits: 1},
	}}
	want := api.Automaton{Props: 1, States: 2, Start: []int{0}, Marks: 1, Edges: []api.Edge{
		{From: 1, To: 1, Marks: 1}, {From: 0, To: 1, Care: 1, Bits: 1}, {From: 0, To: 0}, {From: 0, To: 1, Care: 1, Bits: 1},
	}}
	if b, e := shape.Trim(a); !identical(b, want) || e != api.OK {
		t.Errorf("%v, %d", b, e)
	}
	none := api.Automaton{Props: 2, States: 2, Start: []int{0}, Kind: api.Parity, Marks: 3, Edges: []api.Edge{{From: 0, To: 1}, {From: 1, To: 0, Marks: 3}}}
	if b, e := shape.Trim(none); !identical(b, api.Automaton{Props: 2, Kind: api.Parity, Marks: 3}) || e != api.OK {
		t.Errorf("%v, %d", b, e)
	}
}

// expectDegeneral checks what Degeneral returns for an automaton of which it cannot return ErrFull.
func expectDegeneral(t *testing.T, a api.Automaton, words []api.Word) {
	t.Helper()
	b, e := shape.Degeneral(a)
	if e != api.OK || !aut.Valid(b) || b.Kind != api.Buchi || b.Props != a.Props {
		t.Fatalf("Degeneral(%v) = %v, %d", a, b, e)
	}
	if deterministic(a) && !deterministic(b) {
		t.Fatalf("Degeneral(%v) = %v", a, b)
	}
	expectWords(t, a, b, words)
}

// P8.2 and P8.7
func TestDegeneral(t *testing.T) {
	for _, kind := range []int{api.Buchi, api.General} {
		for i, a := range samples(2, kind, 1000) {
			g := generator(i)
			expectDegeneral(t, a, g.words(a.Props, 20))
		}
	}
	g := generator(3)
	for range 1000 {
		a := g.automaton(api.General, 1, 1+g.below(4), 4+g.below(12), 7)
		for i := range a.Edges {
			a.Edges[i].Marks |= g.below(1<<a.Marks) & g.below(1<<a.Marks)
		}
		expectDegeneral(t, a, g.words(1, 20))
	}
}

// P8.2: example 2 of the chapter, no marks, and marks that no run can meet together
func TestDegeneralCases(t *testing.T) {
	of := func(marks int, edges ...api.Edge) api.Automaton {
		return api.Automaton{Props: 1, States: 2, Start: []int{0}, Kind: api.General, Marks: marks, Edges: edges}
	}
	zero, one, mixed := api.Word{Loop: []int{0}}, api.Word{Loop: []int{1}}, api.Word{Stem: []int{1, 1}, Loop: []int{0, 0, 1}}
	for i, c := range []struct {
		a    api.Automaton
		want [3]bool
	}{
		{of(2, api.Edge{Care: 1, Bits: 1, Marks: 1}, api.Edge{Care: 1, Marks: 2}), [3]bool{false, false, true}},
		{of(0, api.Edge{}), [3]bool{true, true, true}}, {of(0, api.Edge{Care: 1}), [3]bool{true, false, false}}, {of(0), [3]bool{false, false, false}},
		{of(1, api.Edge{}), [3]bool{false, false, false}}, {of(1, api.Edge{Marks: 1}), [3]bool{true, true, true}}, {of(1, api.Edge{Care: 1, Bits: 1, Marks: 1}, api.Edge{Care: 1}), [3]bool{false, true, true}},
		{of(3, api.Edge{Care: 1, Bits: 1, Marks: 5}, api.Edge{Care: 1, Marks: 6}), [3]bool{false, false, true}}, {of(40, api.Edge{Marks: 1<<40 - 1}), [3]bool{true, true, true}}, {of(40, api.Edge{Marks: 1<<40 - 2}), [3]bool{false, false, false}},
		{of(2, api.Edge{Marks: 1}, api.Edge{To: 1, Marks: 3}, api.Edge{From: 1, To: 1, Marks: 2}), [3]bool{false, false, false}},
		{of(2, api.Edge{Marks: 1}, api.Edge{To: 1}, api.Edge{From: 1, To: 1, Marks: 2}, api.Edge{From: 1, Care: 1}), [3]bool{true, false, true}},
	} {
		b, e := shape.Degeneral(c.a)
		for k, w := range []api.Word{zero, one, mixed} {
			if e != api.OK || b.Kind != api.Buchi || has(t, b, w) != c.want[k] {
				t.Errorf("%d: %v, %d: %v", i, b, e, w)
			}
		}
	}
}

// P8.2: the largest automata for which ErrFull is excluded, and larger ones
func TestDegeneralLimits(t *testing.T) {
	for _, c := range []struct{ states, marks int }{{3000, 0}, {1500, 1}, {1000, 2}, {100, 29}, {73, 40}, {1, 40}} {
		a := ring(api.General, c.marks, 3, c.states)
		expectDegeneral(t, a, []api.Word{{Loop: []int{0}}, {Stem: []int{1}, Loop: []int{2, 3}}})
	}
	dense := api.Automaton{Props: 6, States: 60, Start: []int{0}, Kind: api.General, Marks: 39}
	for i := range 1000 {
		dense.Edges = append(dense.Edges, api.Edge{From: i % 60, To: i * 7 % 60, Care: 63, Bits: i % 64, Marks: 1 << (i % 39)})
	}
	expectDegeneral(t, dense, nil)
	for marks := range 41 {
		b, e := shape.Degeneral(crowd(api.General, marks, func(i int) int { return 1 << (i % 41) & (1<<marks - 1) }))
		if e != api.OK && (e != api.ErrFull || marks == 0 || !zero(b)) || e == api.OK && !aut.Valid(b) {
			t.Errorf("%d marks: %d", marks, e)
		}
	}
}

// expectReduced checks what Reduce returns.
func expectReduced(t *testing.T, a api.Automaton, words []api.Word) api.Automaton {
	t.Helper()
	b, e := shape.Reduce(a)
	trimmed, _ := shape.Trim(a)
	if e != api.OK || !aut.Valid(b) || b.Kind != a.Kind || b.Props != a.Props || b.States > trimmed.States || b.Marks > a.Marks {
		t.Fatalf("Reduce(%.500v) = %.500v, %d", a, b, e)
	}
	if deterministic(a) && trimmed.States > 0 && !deterministic(b) {
		t.Fatalf("Reduce(%v) = %v", a, b)
	}
	expectWords(t, a, b, words)
	return b
}

// P8.3 and P8.7
func TestReduce(t *testing.T) {
	for _, kind := range kinds {
		fewer, all := 0, 0
		for i, a := range samples(4, kind, 800) {
			g := generator(i)
			b := expectReduced(t, a, g.words(a.Props, 15))
			fewer, all = fewer+b.States, all+trim(a).States
		}
		if fewer*4 > all*3 {
			t.Errorf("kind %d: %d states of %d", kind, fewer, all)
		}
	}
}

// P8.3 and P8.7: many marks, so that some of them are not needed
func TestReduceMarks(t *testing.T) {
	g := generator(5)
	for _, kind := range []int{api.General, api.Rabin, api.Streett, api.Parity} {
		fewer, all := 0, 0
		for range 1500 {
			a := g.automaton(kind, 1, 1+g.below(4), 2+g.below(10), 8)
			for i := range a.Edges {
				if kind == api.General {
					a.Edges[i].Marks |= g.below(1 << a.Marks)
				} else {
					a.Edges[i].Marks &= g.below(1 << a.Marks)
				}
			}
			b := expectReduced(t, a, g.words(1, 15))
			fewer, all = fewer+b.Marks, all+a.Marks
		}
		if fewer*5 > all*4 {
			t.Errorf("kind %d: %d marks of %d", kind, fewer, all)
		}
	}
}

// P8.3: all automata with two states, one Start state, no propositions, two marks, and three edges at most
func TestReduceSmall(t *testing.T) {
	var edges []api.Edge
	for i := range 16 {
		edges = append(edges, api.Edge{From: i & 1, To: i >> 1 & 1, Marks: i >> 2})
	}
	words := []api.Word{{Loop: []int{0}}}
	for _, kind := range []int{api.General, api.Rabin, api.Streett, api.Parity} {
		for i := range len(edges) * len(edges) * len(edges) {
			a := api.Automaton{States: 2, Start: []int{0}, Kind: kind, Marks: 2, Edges: []api.Edge{edges[i%16], edges[i/16%16], edges[i/256]}}
			expectReduced(t, a, words)
		}
	}
}

// P8.3: automata with as many states, edges and marks as there may be
func TestReduceLarge(t *testing.T) {
	g := generator(6)
	for _, kind := range kinds {
		marks := 40
		if kind == api.Buchi || kind == api.CoBuchi {
			marks = 1
		}
		words := g.words(6, 2)
		for _, marksOf := range []func(i int) int{
			func(i int) int { return (i * 1000003) & (1<<marks - 1) },
			func(i int) int { return 1 << (i % 40) & (1<<marks - 1) },
			func(i int) int { return 1<<marks - 1 },
			func(i int) int { return 0 },
		} {
			expectReduced(t, crowd(kind, marks, marksOf), nil)
		}
		expectReduced(t, ring(kind, marks, 6, api.MaxStates), words)
		expectReduced(t, crossed(kind, marks), nil)
		expectReduced(t, g.automaton(kind, 6, 500, 2000, 10), words)
		expectReduced(t, g.automaton(kind, 1, 20, 4000, 3), nil)
	}
}

// crossed is an automaton with as many edges as are permitted, of which no two have the same letters, and more would be needed if their letters had to be disjoint.
func crossed(kind, marks int) api.Automaton {
	a := api.Automaton{Props: 4, States: api.MaxStates, Start: []int{0}, Kind: kind, Marks: marks}
	for i := range api.MaxEdges / 2 {
		e := api.Edge{From: i % 3000, To: (i%3000 + i/3000 + 1) % 3000, Care: 3, Bits: 3}
		if e.From == 0 {
			e.Marks = 1 << (i % marks)
		}
		f := e
		f.Care, f.Bits = 12, 12
		a.Edges = append(a.Edges, e, f)
	}
	return a
}

// P8.3: automata of which it is clear what is not needed
func TestReduceCases(t *testing.T) {
	of := func(kind, marks int, edges ...api.Edge) api.Automaton {
		return api.Automaton{Props: 1, States: 3, Start: []int{0}, Kind: kind, Marks: marks, Edges: edges}
	}
	p, not := api.Edge{Care: 1, Bits: 1}, api.Edge{Care: 1}
	with := func(e api.Edge, from, to, marks int) api.Edge {
		e.From, e.To, e.Marks = from, to, marks
		return e
	}
	for i, c := range []struct {
		a                    api.Automaton
		states, edges, marks int
	}{
		{of(api.General, 3, with(p, 0, 0, 7), with(not, 0, 0, 4)), 1, 2, 1},
		{of(api.General, 2, with(p, 0, 0, 3), with(not, 0, 0, 3)), 1, 1, 0},
		{of(api.General, 2, with(p, 0, 0, 1), with(not, 0, 0, 2)), 1, 2, 2},
		{of(api.Rabin, 6, with(p, 0, 0, 2), with(not, 0, 0, 1+12+32)), 1, 2, 4},
		{of(api.Streett, 4, with(p, 0, 0, 2+12), with(not, 0, 0, 4)), 1, 2, 2},
		{of(api.Parity, 10, with(p, 0, 0, 1<<8|1<<3), with(not, 0, 0, 1<<5)), 1, 2, 1},
		{of(api.Parity, 10, with(p, 0, 0, 1<<4), with(not, 0, 0, 1<<7)), 1, 2, 2},
		{of(api.Buchi, 1, with(p, 0, 1, 1), with(not, 0, 2, 1), with(p, 1, 2, 1), with(not, 1, 0, 1), with(p, 2, 0, 1), with(not, 2, 2, 1)), 1, 1, 1},
		{of(api.Buchi, 1, with(p, 0, 0, 1), with(not, 0, 0, 0), with(p, 0, 1, 0), with(p, 1, 1, 1)), 1, 2, 1},
		{of(api.CoBuchi, 1, with(p, 0, 0, 0), with(p, 0, 1, 1), with(p, 1, 1, 1), with(p, 1, 0, 1)), 1, 1, 1},
	} {
		b := expectReduced(t, c.a, []api.Word{{Loop: []int{0}}, {Loop: []int{1}}, {Stem: []int{0}, Loop: []int{1}}, {Stem: []int{1}, Loop: []int{0, 1}}})
		if b.States != c.states || len(b.Edges) != c.edges || b.Marks != c.marks {
			t.Errorf("%d: %v", i, b)
		}
	}
}

// P8.4: the coarsest partition, by the definition
func TestColours(t *testing.T) {
	for _, kind := range kinds {
		for _, a := range samples(7, kind, 250) {
			if list, e := shape.Colours(a); e != api.OK || !slices.Equal(list, colours(a)) {
				t.Fatalf("Colours(%v) = %v, %d", a, list, e)
			}
		}
	}
	g := generator(8)
	for range 60 {
		a := g.twins(api.Buchi, 2, 8, 14, 1, 4)
		if list, e := shape.Colours(a); e != api.OK || !slices.Equal(list, colours(a)) {
			t.Fatalf("Colours(%v) = %v, %d", a, list, e)
		}
	}
}

// P8.4: example 1 of the chapter, edges whose letters overlap, and states that are not reachable
func TestColoursCases(t *testing.T) {
	both := []api.Edge{{From: 0, To: 0, Marks: 1}, {From: 0, To: 1, Marks: 1}, {From: 1, To: 1, Marks: 1}, {From: 1, To: 0, Marks: 1}}
	halves := []api.Edge{{From: 0, To: 2, Care: 1}, {From: 0, To: 2, Care: 1, Bits: 1}, {From: 1, To: 2}, {From: 1, To: 2, Care: 2, Bits: 2}, {From: 2, To: 2, Marks: 1}}
	for i, c := range []struct {
		a    api.Automaton
		want []int
	}{
		{api.Automaton{States: 2, Start: []int{0}, Marks: 1, Edges: both}, []int{0, 0}},
		{api.Automaton{States: 2, Start: []int{0}, Marks: 1, Edges: both[:3]}, []int{0, 0}},
		{api.Automaton{States: 2, Start: []int{0}, Marks: 1, Edges: both[:2]}, []int{0, 1}},
		{api.Automaton{Props: 2, States: 3, Marks: 1, Edges: halves}, []int{0, 0, 1}},
		{api.Automaton{Props: 2, States: 3, Marks: 1, Edges: halves[1:]}, []int{0, 1, 2}},
		{api.Automaton{States: 4, Marks: 1}, []int{0, 0, 0, 0}}, {api.Automaton{Marks: 1}, nil},
		{api.Automaton{States: 4, Marks: 1, Edges: []api.Edge{{From: 3, To: 0}, {From: 0, To: 0}, {From: 1, To: 2}}}, []int{0, 1, 2, 0}},
		{api.Automaton{States: 3, Marks: 1, Edges: []api.Edge{{From: 1, To: 2}, {From: 2, To: 0}, {From: 0, To: 1, Marks: 1}}}, []int{0, 1, 2}},
	} {
		if list, e := shape.Colours(c.a); e != api.OK || !slices.Equal(list, c.want) {
			t.Errorf("%d: %v, %d", i, list, e)
		}
	}
}

// P8.4 and P8.5: the largest automata, among them one that has to be divided state by state
func TestColoursLarge(t *testing.T) {
	path := ring(api.Buchi, 1, 6, api.MaxStates)
	list, e := shape.Colours(path)
	for s, c := range list {
		if c != s || e != api.OK {
			t.Fatalf("state %d: %d, %d", s, c, e)
		}
	}
	path.Edges[2999].Marks = 0
	list, e = shape.Colours(path)
	if len(list) != 3000 || slices.Max(list) != 0 || e != api.OK {
		t.Errorf("%d classes, %d", len(list), e)
	}
	if m, e := shape.Merge(path); m.States != 1 || len(m.Edges) != 1 || e != api.OK {
		t.Errorf("%v, %d", m, e)
	}
	a := crowd(api.Rabin, 40, func(i int) int { return i * 1000003 & (1<<40 - 1) })
	m, e := shape.Merge(a)
	if e != api.OK || !aut.Valid(m) {
		t.Errorf("%.500v, %d", m, e)
	}
	expectMerged(t, m)
}

// P8.5, P8.7 and P8.9
func TestMerge(t *testing.T) {
	for _, kind := range kinds {
		for i, a := range samples(9, kind, 250) {
			m, e := shape.Merge(a)
			if e != api.OK || !identical(m, merge(a)) {
				t.Fatalf("Merge(%v) = %v, %d", a, m, e)
			}
			expectMerged(t, m)
			g := generator(i)
			expectWords(t, a, m, g.words(a.Props, 10))
		}
	}
}

// expectMerged checks that all states are of different classes, so that Merge changes nothing but identical edges.
func expectMerged(t *testing.T, m api.Automaton) {
	t.Helper()
	list, e := shape.Colours(m)
	for s, c := range list {
		if c != s || e != api.OK {
			t.Fatalf("Colours(%.500v) = %v, %d", m, list, e)
		}
	}
	if again, e := shape.Merge(m); !identical(again, m) || e != api.OK {
		t.Fatalf("Merge(%.500v) = %.500v", m, again)
	}
}

// P8.5: example 1 of the chapter, the order of edges, and identical edges
func TestMergeCases(t *testing.T) {
	a := api.Automaton{Props: 1, States: 4, Start: []int{1, 2, 3}, Marks: 1, Edges: []api.Edge{
		{From: 3, To: 0, Marks: 1}, {From: 1, To: 3}, {From: 0, To: 2, Care: 1}, {From: 2, To: 1, Care: 1}, {From: 2, To: 1}, {From: 0, To: 3, Marks: 1}, {From: 3, To: 0, Marks: 1},
		{From: 3, To: 2, Marks: 1}, {From: 1, To: 0, Marks: 1}, {From: 2, To: 3, Marks: 1}, {From: 0, To: 1, Marks: 0}, {From: 3, To: 1}, {From: 0, To: 0, Marks: 0},
	}}
	want := api.Automaton{Props: 1, States: 1, Start: []int{0}, Marks: 1, Edges: []api.Edge{{Care: 1}, {Marks: 1}, {}}}
	if m, e := shape.Merge(a); !identical(m, want) || e != api.OK {
		t.Errorf("%v, %d", m, e)
	}
	twice := api.Automaton{States: 1, Kind: api.General, Marks: 2, Edges: []api.Edge{{Marks: 2}, {Marks: 1}, {Marks: 2}}}
	if m, e := shape.Merge(twice); len(m.Edges) != 2 || m.Edges[0].Marks != 2 || e != api.OK {
		t.Errorf("%v, %d", m, e)
	}
}

// All functions: automata that are not valid, before automata of another kind
func TestErrors(t *testing.T) {
	changers := map[string]func(api.Automaton) (api.Automaton, api.Errno){"Trim": shape.Trim, "Degeneral": shape.Degeneral, "Reduce": shape.Reduce, "Merge": shape.Merge}
	for _, a := range invalid() {
		for name, change := range changers {
			if b, e := change(a); !zero(b) || e != api.ErrArg {
				t.Errorf("%s(%.200v) = %v, %d", name, a, b, e)
			}
		}
		if list, e := shape.Colours(a); len(list) > 0 || e != api.ErrArg {
			t.Errorf("Colours(%.200v) = %v, %d", a, list, e)
		}
		if s, e := shape.Print(a); s != "" || e != api.ErrArg {
			t.Errorf("Print(%.200v) = %q, %d", a, s, e)
		}
	}
	for _, kind := range kinds[2:] {
		a := ring(kind, map[bool]int{true: 1, false: 40}[kind == api.CoBuchi], 1, api.MaxStates)
		if b, e := shape.Degeneral(a); !zero(b) || e != api.ErrKind {
			t.Errorf("kind %d: %v, %d", kind, b, e)
		}
	}
}

// Calls leave their arguments as they are, and equal calls have equal results that share nothing.
func TestEffects(t *testing.T) {
	for _, change := range []func(api.Automaton) (api.Automaton, api.Errno){shape.Trim, shape.Degeneral, shape.Reduce, shape.Merge} {
		for _, kind := range kinds {
			for _, a := range samples(10, kind, 20) {
				before := copied(a)
				b, e := change(a)
				c, d := change(a)
				if !identical(a, before) || !identical(b, c) || e != d {
					t.Fatalf("%v: %v and %v", before, b, c)
				}
				for i := range b.Edges {
					b.Edges[i] = api.Edge{From: -1}
				}
				for i := range b.Start {
					b.Start[i] = -1
				}
				if again, _ := change(a); !identical(a, before) || !identical(again, c) {
					t.Fatalf("%v: %v and %v", before, again, c)
				}
			}
		}
	}
}
