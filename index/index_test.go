package index_test

import (
	"math/bits"
	"testing"

	"lodesman/api"
	"lodesman/aut"
	"lodesman/index"
)

// expectSqueezed checks what Squeeze returns, but for which runs are accepted.
func expectSqueezed(t *testing.T, a api.Automaton) api.Automaton {
	t.Helper()
	before := copied(a)
	s, e := index.Squeeze(a)
	if e != api.OK || !aut.Valid(s) || s.Kind != api.Parity || s.Marks > a.Marks || !identical(unmarked(s), unmarked(a)) || !identical(a, before) {
		t.Fatalf("Squeeze(%s) = %s, %d", brief(a), brief(s), e)
	}
	for _, x := range s.Edges {
		if bits.OnesCount(uint(x.Marks)) > 1 {
			t.Fatalf("Squeeze(%s) = %s", brief(a), brief(s))
		}
	}
	again, e := index.Squeeze(s)
	if e != api.OK || again.Marks != s.Marks {
		t.Fatalf("Squeeze(%s) = %s, and then %s, %d", brief(a), brief(s), brief(again), e)
	}
	return s
}

// P11.3, P11.6 and P11.8: any automata of Kind Parity; all sets of edges that runs can take infinitely often
func TestSqueeze(t *testing.T) {
	g := generator(5)
	fewer := 0
	for range 3000 {
		a := g.automaton(api.Parity, g.below(3), 1+g.below(4), g.below(9), g.below(8))
		s := expectSqueezed(t, a)
		for _, set := range loops(a) {
			if accepts(t, a, set) != accepts(t, s, set) {
				t.Fatalf("Squeeze(%v) = %v: %b", a, s, set)
			}
		}
		if s.Marks < a.Marks {
			fewer++
		}
	}
	if fewer < 1000 {
		t.Errorf("%d", fewer)
	}
}

// P11.3: as many marks, states and edges as there may be, and none
func TestSqueezeCases(t *testing.T) {
	g := generator(6)
	full := g.automaton(api.Parity, 2, api.MaxStates, api.MaxEdges, api.MaxMarks)
	small := g.automaton(api.Parity, 2, 40, 3000, api.MaxMarks)
	for _, a := range []api.Automaton{
		{Kind: api.Parity}, {Kind: api.Parity, Marks: 40}, {Kind: api.Parity, States: 3000, Marks: 7}, {Kind: api.Parity, States: 1, Start: []int{0}, Edges: []api.Edge{{}}}, full, small,
	} {
		s := expectSqueezed(t, a)
		for _, w := range g.words(a.Props, 10) {
			if has(t, a, w) != has(t, s, w) {
				t.Errorf("%s: %v", brief(a), w)
			}
		}
	}
	// Each mark is needed: the circles of the states 0 to m have the greatest mark m.
	tower := api.Automaton{Props: 1, States: 40, Start: []int{0}, Kind: api.Parity, Marks: 40}
	for m := range 40 {
		tower.Edges = append(tower.Edges, api.Edge{From: m, To: min(m+1, 39), Care: 1, Marks: 1 << m}, api.Edge{From: m, To: max(m-1, 0), Care: 1, Bits: 1, Marks: 1<<m | 1<<(m/2)})
	}
	if s := expectSqueezed(t, tower); s.Marks != 40 {
		t.Errorf("%v", s)
	}
	// One mark is enough: the greatest one is always met.
	for i := range tower.Edges {
		tower.Edges[i].Marks |= 1 << 38
	}
	tower.Edges = tower.Edges[:76]
	if s := expectSqueezed(t, tower); s.Marks != 1 {
		t.Errorf("%v", s)
	}
}

// P11.3: the marks of the automaton of the stage's test become fewer
func TestSqueezeParity(t *testing.T) {
	g := generator(7)
	for i := range 200 {
		kind := kinds[i%6]
		p, e := index.Parity(g.single(kind, 2, 1+g.below(5), g.marksOf(kind, 6), 0))
		s := expectSqueezed(t, p)
		m, f := index.Max(s)
		if e != api.OK || f != api.OK || m >= p.Marks || !within(t, p, s) || !within(t, s, p) {
			t.Fatalf("%v: %v", p, s)
		}
	}
}

// P11.3 and P11.5: automata of other kinds, and invalid ones
func TestSqueezeErrors(t *testing.T) {
	expect := func(a api.Automaton, want api.Errno) {
		t.Helper()
		s, e := index.Squeeze(a)
		m, f := index.Max(a)
		if e != want || f != want || !zero(s) || m != 0 {
			t.Errorf("%s: %s, %d and %d, %d", brief(a), brief(s), e, m, f)
		}
	}
	for _, a := range invalid() {
		expect(a, api.ErrArg)
	}
	for _, kind := range kinds[:5] {
		expect(changed(func(a *api.Automaton) { a.Kind, a.Marks, a.Edges = kind, 1+kind/3, nil }), api.ErrKind)
	}
	expect(again(), api.ErrKind)
}

// P11.3: the results share no memory
func TestSqueezeMemory(t *testing.T) {
	a := changed(func(a *api.Automaton) { a.Kind = api.Parity })
	s, _ := index.Squeeze(a)
	r, _ := index.Squeeze(a)
	s.Start[0], s.Edges[0].Marks, s.Edges[1].To = 7, 7, 7
	if a.Start[0] != 0 || a.Edges[0].Marks != 1 || a.Edges[1].To != 0 || r.Start[0] != 0 || r.Edges[0].Marks != 1 {
		t.Errorf("%v, %v", a, r)
	}
}

// P11.5: the greatest mark of all edges, also of those that no run takes
func TestMax(t *testing.T) {
	g := generator(8)
	met := map[int]bool{}
	for range 1000 {
		a := g.automaton(api.Parity, 1, 1+g.below(4), g.below(6), g.below(41))
		want := -1
		for _, e := range a.Edges {
			for m := range a.Marks {
				if e.Marks>>m&1 == 1 && m > want {
					want = m
				}
			}
		}
		if m, e := index.Max(a); m != want || e != api.OK {
			t.Fatalf("Max(%v) = %d, %d", a, m, e)
		}
		met[want] = true
	}
	if !met[-1] || !met[0] || !met[39] {
		t.Errorf("%v", met)
	}
	if m, e := index.Max(api.Automaton{Kind: api.Parity, States: 2, Marks: 9, Edges: []api.Edge{{From: 1, To: 0, Marks: 5}, {}}}); m != 2 || e != api.OK {
		t.Errorf("%d, %d", m, e)
	}
}
