package prod_test

import (
	"math"
	"testing"

	"lodesman/api"
	"lodesman/aut"
	"lodesman/ltl"
	"lodesman/member"
	"lodesman/prod"
	"lodesman/tableau"
	"lodesman/truth"
	"lodesman/word"
)

// general are the kinds that Union and Meet accept.
var general = []int{api.Buchi, api.General}

// P9.1 and P9.6: automata of all permitted kinds, with different numbers of marks
func TestUnion(t *testing.T) {
	g := generator(1)
	either, neither := 0, 0
	for i := range 2000 {
		props := g.below(3)
		a := g.automaton(general[i%2], props, 1+g.below(4), g.below(10), 3)
		b := g.automaton(general[i/2%2], props, 1+g.below(4), g.below(10), 3)
		u, e := prod.Union(a, b)
		if e != api.OK || !aut.Valid(u) || u.Kind != api.General || u.Props != props {
			t.Fatalf("Union(%v, %v) = %v, %d", a, b, u, e)
		}
		for _, w := range g.words(props, 10) {
			want := has(t, a, w) || has(t, b, w)
			if has(t, u, w) != want {
				t.Fatalf("Union(%v, %v) = %v: %v is not %t", a, b, u, w, want)
			}
			if want {
				either++
			} else {
				neither++
			}
		}
	}
	if either < 1000 || neither < 1000 {
		t.Errorf("%d, %d", either, neither)
	}
}

// P9.1: no states, no Start states, no marks and as many as there may be
func TestUnionCases(t *testing.T) {
	none, all := api.Automaton{Props: 1, Kind: api.General}, loops(1, 1, 1, 0, api.Edge{})
	heavy := loops(1, 1, 1, api.MaxMarks, api.Edge{Care: 1, Marks: 1<<api.MaxMarks - 1})
	heavy.Edges = append(heavy.Edges, api.Edge{Care: 1, Bits: 1, Marks: 1<<api.MaxMarks - 2})
	zeros, ones := api.Word{Loop: []int{0}}, api.Word{Loop: []int{1}}
	for _, c := range []struct {
		a, b        api.Automaton
		zeros, ones bool
	}{
		{none, none, false, false}, {none, all, true, true}, {heavy, none, true, false}, {heavy, again(), true, true}, {again(), again(), false, true}, {heavy, heavy, true, false}, {all, heavy, true, true},
		{changed(func(a *api.Automaton) { a.Start = nil }), heavy, true, false},
	} {
		for _, list := range [][2]api.Automaton{{c.a, c.b}, {c.b, c.a}} {
			u, e := prod.Union(list[0], list[1])
			if e != api.OK || has(t, u, zeros) != c.zeros || has(t, u, ones) != c.ones {
				t.Errorf("Union(%v, %v) = %v, %d", list[0], list[1], u, e)
			}
		}
	}
}

// P9.1: exactly as many states and edges as there may be, and one more
func TestUnionLimits(t *testing.T) {
	for _, c := range []struct {
		states, edges, moreStates, moreEdges int
		want                                 api.Errno
	}{
		{3000, 10, 0, 0, api.OK}, {2999, 10, 1, 1, api.OK}, {1500, 0, 1500, 0, api.OK}, {2999, 10, 2, 2, api.ErrFull}, {3000, 0, 3000, 0, api.ErrFull}, {3000, 0, 1, 0, api.ErrFull},
		{10, 20000, 10, 20000, api.OK}, {10, 20001, 10, 20000, api.ErrFull}, {10, 40000, 10, 0, api.OK}, {10, 40000, 1, 1, api.ErrFull}, {2, 40000, 2, 40000, api.ErrFull}, {1500, 39999, 1500, 1, api.OK},
	} {
		a, b := loops(2, c.states, c.edges, 0, api.Edge{}), loops(2, c.moreStates, c.moreEdges, 40, api.Edge{})
		u, e := prod.Union(a, b)
		if e != c.want || e != api.OK && !zero(u) || e == api.OK && !aut.Valid(u) {
			t.Errorf("%v: %d states, %d edges, %d", c, u.States, len(u.Edges), e)
		}
	}
}

// expectMeet checks what Meet returns for automata of which it cannot return ErrFull.
func expectMeet(t *testing.T, a, b api.Automaton, words []api.Word) {
	t.Helper()
	m, e := prod.Meet(a, b)
	if e != api.OK || !aut.Valid(m) || m.Kind != api.General || m.Props != a.Props {
		t.Fatalf("Meet(%v, %v) = %v, %d", a, b, m, e)
	}
	if deterministic(a) && deterministic(b) && !deterministic(m) {
		t.Fatalf("Meet(%v, %v) = %v is not deterministic", a, b, m)
	}
	for _, w := range words {
		if want := has(t, a, w) && has(t, b, w); has(t, m, w) != want {
			t.Fatalf("Meet(%v, %v) = %v: %v is not %t", a, b, m, w, want)
		}
	}
}

// P9.2 and P9.6: any automata, and deterministic ones
func TestMeet(t *testing.T) {
	g := generator(2)
	for i := range 2000 {
		props := g.below(3)
		a := g.automaton(general[i%2], props, 1+g.below(4), g.below(16), 3)
		b := g.automaton(general[i/2%2], props, 1+g.below(4), g.below(16), 3)
		c := g.single(general[i%2], props, 1+g.below(5), 3, 6)
		d := g.single(general[i/2%2], props, 1+g.below(5), 3, 6)
		words := g.words(props, 8)
		expectMeet(t, a, b, words)
		expectMeet(t, a, c, words)
		expectMeet(t, c, d, words)
	}
}

// P9.2: no states, no marks, and as many pairs of states, pairs of edges and marks as there may be
func TestMeetCases(t *testing.T) {
	words := []api.Word{{Loop: []int{0}}, {Loop: []int{1}}, {Stem: []int{1}, Loop: []int{0, 1}}}
	none, all := api.Automaton{Props: 1, Kind: api.General}, loops(1, 1, 1, 0, api.Edge{})
	half := loops(1, 1, 1, 20, api.Edge{Care: 1, Marks: 1<<20 - 1})
	for _, c := range [][2]api.Automaton{
		{none, none}, {none, all}, {all, all}, {all, again()}, {again(), again()}, {half, half}, {half, loops(1, 1, 1, 20, api.Edge{Marks: 1<<20 - 1})},
		{loops(1, 1, 1, 40, api.Edge{Marks: 1<<40 - 1}), all}, {loops(1, 1, 1, 39, api.Edge{Marks: 1<<39 - 1}), again()},
		{loops(1, 50, 50, 1, api.Edge{Marks: 1}), loops(1, 60, 60, 1, api.Edge{Care: 1})}, {loops(1, 3000, 3000, 1, api.Edge{Marks: 1}), loops(1, 1, 13, 0, api.Edge{Care: 1})},
		{ring(api.Buchi, 1, 1, 50), ring(api.General, 2, 1, 59)}, {ring(api.General, 1, 1, 3000), again()}, {loops(1, 1, 200, 1, api.Edge{Marks: 1}), loops(1, 1, 200, 1, api.Edge{Marks: 1})},
		{loops(1, 2, 40000, 0, api.Edge{}), loops(1, 1, 1, 0, api.Edge{})},
	} {
		expectMeet(t, c[0], c[1], words)
		expectMeet(t, c[1], c[0], words)
	}
}

// P9.2: automata of which the product may have too much of something; what is returned has the right words
func TestMeetLimits(t *testing.T) {
	g := generator(3)
	crowd := func(props, states int, edge api.Edge) api.Automaton {
		a := loops(props, states, 40000, 1, edge)
		for i := range a.Edges {
			a.Edges[i].To = g.below(states)
		}
		return a
	}
	apart := api.Edge{Care: 1, Bits: 1}
	for i, c := range [][2]api.Automaton{
		{loops(2, 3000, 3000, 1, api.Edge{Marks: 1}), loops(2, 3000, 3000, 1, api.Edge{Marks: 1})}, {ring(api.Buchi, 1, 2, 2999), ring(api.General, 3, 2, 3000)}, {loops(2, 1, 201, 1, api.Edge{Marks: 1}), loops(2, 1, 200, 1, api.Edge{Marks: 1})},
		{crowd(2, 3000, api.Edge{}), crowd(2, 3000, api.Edge{})}, {crowd(2, 50, api.Edge{Care: 1}), crowd(2, 50, apart)}, {crowd(2, 1, api.Edge{Care: 1}), crowd(2, 1, apart)}, {crowd(6, 54, apart), crowd(6, 54, api.Edge{Care: 1})},
		{loops(2, 1, 1, 40, api.Edge{Marks: 1<<40 - 1}), loops(2, 1, 1, 1, api.Edge{Marks: 1})}, {loops(2, 1, 1, 40, api.Edge{Marks: 1<<40 - 1}), loops(2, 1, 1, 40, api.Edge{Marks: 1<<40 - 1})},
	} {
		m, e := prod.Meet(c[0], c[1])
		if e == api.ErrFull && zero(m) {
			continue
		}
		if e != api.OK || !aut.Valid(m) {
			t.Fatalf("%d: %d", i, e)
		}
		for _, w := range g.words(m.Props, 4) {
			if want := has(t, c[0], w) && has(t, c[1], w); has(t, m, w) != want {
				t.Fatalf("%d: %v is not %t", i, w, want)
			}
		}
	}
}

// expectCross checks what Cross returns for automata of which it cannot return ErrFull.
func expectCross(t *testing.T, a, b api.Automaton, words []api.Word) {
	t.Helper()
	c, e := prod.Cross(a, b)
	if e != api.OK || !aut.Valid(c) || c.Kind != api.Streett || c.Props != a.Props || !deterministic(c) || !complete(c) {
		t.Fatalf("Cross(%v, %v) = %v, %d", a, b, c, e)
	}
	for _, w := range words {
		if want := has(t, a, w) && has(t, b, w); has(t, c, w) != want {
			t.Fatalf("Cross(%v, %v) = %v: %v is not %t", a, b, c, w, want)
		}
	}
}

// P9.3 and P9.6: all permitted kinds
func TestCross(t *testing.T) {
	g := generator(4)
	permitted := []int{api.Streett, api.Buchi, api.General}
	for i := range 3000 {
		props := g.below(4)
		a := g.single(permitted[i%3], props, 1+g.below(5), 4, 0)
		b := g.single(permitted[i/3%3], props, 1+g.below(5), 4, 0)
		expectCross(t, a, b, g.words(props, 10))
	}
}

// P9.3: as many marks, states and edges as there may be
func TestCrossLimits(t *testing.T) {
	g := generator(5)
	words := g.words(6, 6)
	most := func(kind, marks int) api.Automaton {
		a := ring(kind, marks, 6, 2)
		a.Edges[0].Marks = min(1, marks)
		return a
	}
	for _, c := range [][2]api.Automaton{
		{most(api.Streett, 40), most(api.General, 0)}, {most(api.Streett, 20), most(api.General, 10)}, {most(api.General, 20), most(api.Streett, 0)}, {most(api.General, 19), most(api.Buchi, 1)}, {most(api.Streett, 38), most(api.Buchi, 1)},
		{g.single(api.Buchi, 6, 25, 1, 0), g.single(api.General, 6, 25, 3, 0)}, {ring(api.Buchi, 1, 3, 50), ring(api.Streett, 2, 3, 59)}, {ring(api.Buchi, 1, 0, 3000), ring(api.General, 0, 0, 1)},
	} {
		list := words
		if c[0].Props < 6 {
			list = g.words(c[0].Props, 4)
		}
		expectCross(t, c[0], c[1], list)
		expectCross(t, c[1], c[0], list)
	}
	for _, c := range [][2]api.Automaton{
		{most(api.Streett, 40), most(api.Buchi, 1)}, {most(api.General, 40), most(api.General, 40)}, {most(api.General, 21), most(api.General, 0)}, {ring(api.Buchi, 1, 3, 2999), ring(api.Buchi, 1, 3, 3000)}, {g.single(api.Buchi, 6, 600, 1, 0), g.single(api.Buchi, 6, 600, 1, 0)},
	} {
		if x, e := prod.Cross(c[0], c[1]); e != api.ErrFull || !zero(x) {
			t.Errorf("%d states, %d", x.States, e)
		}
	}
}

// P9.3: only deterministic and complete automata of some kinds
func TestCrossKinds(t *testing.T) {
	g := generator(6)
	for _, kind := range kinds {
		a := g.single(kind, 2, 3, 4, 0)
		gap := copied(a)
		gap.Edges = gap.Edges[1:]
		twice := copied(a)
		twice.Edges = append(twice.Edges, api.Edge{})
		starts, start := copied(a), copied(a)
		starts.Start, start.Start = []int{0, 1}, nil
		for i, b := range []api.Automaton{a, gap, twice, starts, start} {
			want := api.ErrKind
			if i == 0 && (kind == api.Streett || kind == api.Buchi || kind == api.General) {
				want = api.OK
			}
			good := g.single(api.Streett, 2, 2, 2, 0)
			for _, list := range [][2]api.Automaton{{good, b}, {b, good}} {
				if x, e := prod.Cross(list[0], list[1]); e != want || e != api.OK && !zero(x) {
					t.Errorf("Cross(%v, %v) = %v, %d", list[0], list[1], x, e)
				}
			}
		}
	}
}

// free is Free, by the definition.
func free(a api.Automaton, i int) api.Automaton {
	b := copied(a)
	b.Edges = nil
	for _, e := range a.Edges {
		e.Care, e.Bits = e.Care&(63-1<<i), e.Bits&(63-1<<i)
		twice := false
		for _, f := range b.Edges {
			twice = twice || e == f
		}
		if !twice {
			b.Edges = append(b.Edges, e)
		}
	}
	return b
}

// P9.4 and P9.6: the automaton itself; each word that differs in proposition i is accepted; and an accepted run is one on such a word
func TestFree(t *testing.T) {
	g := generator(7)
	fewer := 0
	for k := range 3000 {
		props := 1 + g.below(3)
		a := g.automaton(kinds[k%6], props, 1+g.below(3), g.below(24), 2)
		i := g.below(props)
		b, e := prod.Free(a, i)
		if e != api.OK || !identical(b, free(a, i)) {
			t.Fatalf("Free(%v, %d) = %v, %d", a, i, b, e)
		}
		if len(b.Edges) < len(a.Edges) {
			fewer++
		}
		for _, w := range g.words(props, 6) {
			if has(t, a, w) && !has(t, b, flipped(&g, w, i)) {
				t.Fatalf("Free(%v, %d) = %v lacks a word like %v", a, i, b, w)
			}
			expectOrigin(t, a, b, w, i)
		}
	}
	if fewer < 500 {
		t.Errorf("%d", fewer)
	}
}

// flipped is w with another proposition i at some positions.
func flipped(g *generator, w api.Word, i int) api.Word {
	v := api.Word{}
	for _, l := range w.Stem {
		v.Stem = append(v.Stem, l^g.below(2)<<i)
	}
	for range 2 {
		for _, l := range w.Loop {
			v.Loop = append(v.Loop, l^g.below(2)<<i)
		}
	}
	return v
}

// expectOrigin checks that there is a word of a like w if w is a word of b: b's run, on the edges of a.
func expectOrigin(t *testing.T, a, b api.Automaton, w api.Word, i int) {
	t.Helper()
	stem, loop, e := member.Run(b, w)
	if e == api.ErrNone {
		return
	}
	v, at := api.Word{}, 0
	add := func(list []int, edge int) []int {
		l := letterAt(w, at)
		at++
		for _, x := range a.Edges {
			f := x
			f.Care, f.Bits = f.Care&^(1<<i), f.Bits&^(1<<i)
			if f == b.Edges[edge] {
				return append(list, l&^(x.Care&(1<<i))|x.Bits&(1<<i))
			}
		}
		t.Fatalf("Free(%v, %d) has the edge %v", a, i, b.Edges[edge])
		return nil
	}
	for _, edge := range stem {
		v.Stem = add(v.Stem, edge)
	}
	for _, edge := range loop {
		v.Loop = add(v.Loop, edge)
	}
	if len(v.Stem)+len(v.Loop) <= api.MaxWord && !has(t, a, v) {
		t.Fatalf("Free(%v, %d) = %v has %v, and a does not have %v", a, i, b, w, v)
	}
}

// letterAt is the letter of w at a position.
func letterAt(w api.Word, at int) int {
	l, _ := word.At(w, at)
	return l
}

// P9.4: several identical edges, also of those that were so before; and the range of i
func TestFreeCases(t *testing.T) {
	a := api.Automaton{Props: 2, States: 2, Start: []int{1}, Kind: api.Parity, Marks: 2, Edges: []api.Edge{
		{Care: 3, Bits: 2, Marks: 1}, {Care: 2, Bits: 2}, {Care: 3, Bits: 3, Marks: 1}, {Care: 2, Bits: 2}, {To: 1, Care: 1, Bits: 1}, {To: 1, Care: 1}, {To: 1},
	}}
	for i, want := range [][]api.Edge{
		{{Care: 2, Bits: 2, Marks: 1}, {Care: 2, Bits: 2}, {To: 1}},
		{{Care: 1, Marks: 1}, {}, {Care: 1, Bits: 1, Marks: 1}, {To: 1, Care: 1, Bits: 1}, {To: 1, Care: 1}, {To: 1}},
	} {
		b := copied(a)
		b.Edges = want
		if f, e := prod.Free(a, i); !identical(f, b) || e != api.OK {
			t.Errorf("Free(%v, %d) = %v, %d", a, i, f, e)
		}
	}
	for props := range api.MaxProps + 1 {
		for _, i := range []int{math.MinInt, -1, 0, props - 1, props, props + 1, 6, 7, 64, math.MaxInt} {
			f, e := prod.Free(loops(props, 2, 5, 1, api.Edge{}), i)
			if i >= 0 && i < props && e != api.OK || (i < 0 || i >= props) && (e != api.ErrRange || !zero(f)) {
				t.Errorf("%d of %d propositions: %v, %d", i, props, f, e)
			}
		}
	}
}

// P9.5 and P9.6: the automaton itself, and words with and without the additional propositions
func TestWiden(t *testing.T) {
	g := generator(8)
	for k := range 600 {
		props := g.below(7)
		a := g.automaton(kinds[k%6], props, 1+g.below(3), g.below(12), 2)
		for _, n := range []int{math.MinInt, -1, 0, 1, 2, 3, 4, 5, 6, 7, 64, math.MaxInt} {
			b, e := prod.Widen(a, n)
			if n < props || n > api.MaxProps {
				if e != api.ErrRange || !zero(b) {
					t.Fatalf("Widen(%v, %d) = %v, %d", a, n, b, e)
				}
				continue
			}
			want := copied(a)
			want.Props = n
			if !identical(b, want) || e != api.OK {
				t.Fatalf("Widen(%v, %d) = %v, %d", a, n, b, e)
			}
			for _, w := range g.words(n, 4) {
				if has(t, b, w) != has(t, a, narrow(w, props)) {
					t.Fatalf("Widen(%v, %d): %v", a, n, w)
				}
			}
		}
	}
}

// narrow is w without the propositions from props on.
func narrow(w api.Word, props int) api.Word {
	v := api.Word{}
	for _, l := range w.Stem {
		v.Stem = append(v.Stem, l&(1<<props-1))
	}
	for _, l := range w.Loop {
		v.Loop = append(v.Loop, l&(1<<props-1))
	}
	return v
}

// pairwise are the functions with two automata.
var pairwise = map[string]func(a, b api.Automaton) (api.Automaton, api.Errno){"Union": prod.Union, "Meet": prod.Meet, "Cross": prod.Cross}

// P9.1 to P9.5: automata that are not valid
func TestInvalid(t *testing.T) {
	for i, a := range invalid() {
		for name, call := range pairwise {
			other := again()
			other.Props, other.Kind, other.Marks = 2, api.Rabin, 2
			for _, b := range []api.Automaton{again(), other, a} {
				if r, e := call(a, b); e != api.ErrArg || !zero(r) {
					t.Errorf("%s, %d: %d", name, i, e)
				}
				if r, e := call(b, a); e != api.ErrArg || !zero(r) {
					t.Errorf("%s, %d: %d", name, i, e)
				}
			}
		}
		for _, n := range []int{-1, 0, 1, 6, 7} {
			if r, e := prod.Free(a, n); e != api.ErrArg || !zero(r) {
				t.Errorf("Free, %d: %d", i, e)
			}
			if r, e := prod.Widen(a, n); e != api.ErrArg || !zero(r) {
				t.Errorf("Widen, %d: %d", i, e)
			}
		}
	}
}

// P9.1 to P9.3: the order of ErrDim, ErrKind and ErrFull
func TestOrder(t *testing.T) {
	for name, call := range pairwise {
		for _, kind := range kinds {
			for _, other := range kinds {
				a, b := ring(kind, 40, 1, 2000), ring(other, 40, 1, 1999)
				for _, x := range []*api.Automaton{&a, &b} {
					if x.Kind == api.Buchi || x.Kind == api.CoBuchi {
						x.Marks, x.Edges[x.States-1].Marks = 1, 1
					}
				}
				permitted := func(k int) bool { return k <= api.General || k == api.Streett && name == "Cross" }
				want := api.ErrKind
				if permitted(kind) && permitted(other) {
					want = api.ErrFull
				}
				if r, e := call(a, b); e != want || !zero(r) {
					t.Errorf("%s of kinds %d and %d: %d", name, kind, other, e)
				}
				b.Props = 2
				if r, e := call(a, b); e != api.ErrDim || !zero(r) {
					t.Errorf("%s of kinds %d and %d: %d", name, kind, other, e)
				}
			}
		}
	}
}

// P2 and rule 6: the same result each time, arguments as they were, and no memory in common
func TestMemory(t *testing.T) {
	g := generator(9)
	for range 300 {
		a, b := g.single(api.Buchi, 2, 1+g.below(4), 1, 0), g.single(api.General, 2, 1+g.below(4), 2, 0)
		oldA, oldB := copied(a), copied(b)
		calls := []func() (api.Automaton, api.Errno){
			func() (api.Automaton, api.Errno) { return prod.Free(a, 1) },
			func() (api.Automaton, api.Errno) { return prod.Widen(a, 3) },
			func() (api.Automaton, api.Errno) { return prod.Widen(a, 2) },
		}
		for _, call := range pairwise {
			calls = append(calls, func() (api.Automaton, api.Errno) { return call(a, b) })
		}
		for _, call := range calls {
			first, _ := call()
			kept := copied(first)
			for i := range first.Edges {
				first.Edges[i] = api.Edge{From: 77}
			}
			for i := range first.Start {
				first.Start[i] = 77
			}
			second, e := call()
			if e != api.OK || !identical(kept, second) || !identical(a, oldA) || !identical(b, oldB) {
				t.Fatalf("%v and %v, %d", kept, second, e)
			}
		}
	}
}

// The examples of the chapter
func TestExamples(t *testing.T) {
	of := func(text string) api.Automaton {
		f, _ := ltl.Parse([]string{"p"}, text)
		a, e := tableau.General(f, 1)
		if e != api.OK {
			t.Fatalf("%s: %d", text, e)
		}
		return a
	}
	m, e := prod.Meet(of("G F p"), of("G F !p"))
	if e != api.OK || !has(t, m, api.Word{Loop: []int{0, 1}}) || has(t, m, api.Word{Loop: []int{1}}) {
		t.Errorf("Meet: %v, %d", m, e)
	}
	f, e := prod.Free(of("G p"), 0)
	if e != api.OK {
		t.Errorf("Free: %d", e)
	}
	g := generator(10)
	for _, w := range g.words(1, 50) {
		if !has(t, f, w) {
			t.Errorf("Free: %v", w)
		}
	}
}

// P9.6: the words of formulas, whose conjunctions and disjunctions are intersections and unions
func TestFormulas(t *testing.T) {
	texts := []string{"G F p", "F G p", "p U q", "G (p -> F q)", "X X p", "p W (q & X p)", "F G p | G F q", "true", "false"}
	g := generator(11)
	words := g.words(2, 60)
	var list []api.Automaton
	var formulas []api.Formula
	for _, text := range texts {
		f, _ := ltl.Parse([]string{"p", "q"}, text)
		a, e := tableau.General(f, 2)
		if e != api.OK {
			t.Fatalf("%s: %d", text, e)
		}
		list, formulas = append(list, a), append(formulas, f)
	}
	for i, a := range list {
		for k, b := range list {
			u, e := prod.Union(a, b)
			m, d := prod.Meet(a, b)
			if e != api.OK || d != api.OK {
				t.Fatalf("%s and %s: %d, %d", texts[i], texts[k], e, d)
			}
			for _, w := range words {
				x, _ := truth.Model(formulas[i], w)
				y, _ := truth.Model(formulas[k], w)
				if has(t, u, w) != (x || y) || has(t, m, w) != (x && y) {
					t.Fatalf("%s and %s: %v", texts[i], texts[k], w)
				}
			}
		}
	}
}
