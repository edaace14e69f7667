package aut_test

import (
	"slices"
	"testing"

	"lodesman/api"
	"lodesman/aut"
)

// expectFilled checks that f is what Fill may return for a, which is not both complete and deterministic.
func expectFilled(t *testing.T, a, f api.Automaton) {
	t.Helper()
	is, e := aut.Deterministic(f)
	full, _ := aut.Complete(f)
	if !is || !full || e != api.OK {
		t.Fatalf("%v: %v is not deterministic and complete", a, f)
	}
	if f.Props != a.Props || f.Kind != a.Kind || f.States != a.States+1 {
		t.Fatalf("%v: %v", a, f)
	}
	sink := a.States
	start := a.Start
	if len(start) == 0 {
		start = []int{sink}
	}
	if !slices.Equal(f.Start, start) {
		t.Fatalf("%v: %v has other Start states", a, f)
	}
	expectSteps(t, a, f)
	expectMarks(t, a, f)
	if again, e := aut.Fill(f); !identical(again, f) || e != api.OK {
		t.Fatalf("Fill(%v) = %v", f, again)
	}
}

// expectSteps checks that f has the steps of a, and otherwise steps to the last state.
func expectSteps(t *testing.T, a, f api.Automaton) {
	t.Helper()
	for s := range f.States {
		for l := range 1 << a.Props {
			want := a.States
			for _, e := range a.Edges {
				if e.From == s && l&e.Care == e.Bits {
					want = e.To
				}
			}
			list, _ := aut.Step(f, s, l)
			if len(list) != 1 || f.Edges[list[0]].To != want {
				t.Fatalf("%v: %v from %d with %d", a, f, s, l)
			}
		}
	}
}

// expectMarks checks that marks were added only where they are needed, that the last state rejects, and that other loops are accepted as before.
func expectMarks(t *testing.T, a, f api.Automaton) {
	t.Helper()
	added := 0
	if a.Marks == 0 && a.Kind == api.General {
		added = 1
	}
	if a.Marks == 0 && a.Kind == api.Streett {
		added = 2
	}
	if f.Marks != a.Marks+added {
		t.Fatalf("%v: %v has %d marks", a, f, f.Marks)
	}
	for _, e := range f.Edges {
		if e.From == a.States && (e.Care != 0 || accepts(f.Kind, f.Marks, e.Marks)) {
			t.Fatalf("%v: %v accepts runs in its last state, or has many edges there", a, f)
		}
	}
	for i, e := range a.Edges {
		if accepts(a.Kind, a.Marks, e.Marks) != accepts(f.Kind, f.Marks, f.Edges[i].Marks) {
			t.Fatalf("%v: %v, edge %d", a, f, i)
		}
	}
}

// P5.7 and P5.10: the form of the result, and its words
func TestFill(t *testing.T) {
	g := generator(5)
	var filled, same, refused int
	for i := range 6000 {
		a := g.single(g.below(4), g.below(4)+1, g.below(30))
		if i%8 == 0 {
			a = g.automaton(g.below(3), g.below(3)+1, g.below(6))
		}
		f, e := aut.Fill(a)
		noStart := copied(a)
		noStart.Start = []int{0}
		switch {
		case !deterministic(noStart) || len(a.Start) > 1:
			refused++
			if e != api.ErrKind || !identical(f, api.Automaton{}) {
				t.Fatalf("Fill(%v) = %v, %d", a, f, e)
			}
			continue
		case e != api.OK:
			t.Fatalf("Fill(%v) = %d", a, e)
		case deterministic(a) && complete(a):
			same++
			if !identical(f, a) {
				t.Fatalf("Fill(%v) = %v", a, f)
			}
		default:
			filled++
			expectFilled(t, a, f)
		}
		for range 8 {
			w := api.Word{Stem: g.list(g.below(3), a.Props), Loop: g.list(1+g.below(3), a.Props)}
			was := len(a.Start) > 0 && accepted(a, w)
			if was != accepted(f, w) {
				t.Fatalf("Fill(%v) = %v: %v", a, f, w)
			}
		}
	}
	if filled < 500 || same < 100 || refused < 100 {
		t.Errorf("%d filled, %d not, %d refused", filled, same, refused)
	}
}

// P5.7: all kinds, with and without marks, without states, and without Start states
func TestFillCases(t *testing.T) {
	for _, kind := range kinds {
		for _, marks := range []int{0, 1, 2, 3, 4, 39, 40} {
			a := api.Automaton{Props: 2, Kind: kind, Marks: marks}
			if !aut.Valid(a) {
				continue
			}
			for range 2 {
				if f, e := aut.Fill(a); e != api.OK {
					t.Errorf("%v: %d", a, e)
				} else {
					expectFilled(t, a, f)
				}
				a.States, a.Edges = 2, []api.Edge{{From: 0, To: 1}, {From: 1, To: 0, Care: 2, Marks: 1<<marks - 1}}
			}
			// The second state lacks letters; behind the first one all of them lead there.
			a.Start = []int{0}
			f, _ := aut.Fill(a)
			expectFilled(t, a, f)
			w := api.Word{Loop: []int{1, 0}}
			if !accepted(f, w) != !accepts(kind, marks, 1<<marks-1) || accepted(f, api.Word{Stem: []int{0, 0}, Loop: []int{2, 2, 1}}) {
				t.Errorf("%v: %v", a, f)
			}
		}
	}
	complete := again()
	complete.Start = nil
	f, _ := aut.Fill(complete)
	expectFilled(t, complete, f)
}

// P5.7: the limits
func TestFillLimits(t *testing.T) {
	states := func(n int) api.Automaton { return api.Automaton{States: n, Start: []int{0}, Marks: 1} }
	whole := ring(0, 3000, 1)
	last := ring(0, 2999, 1)
	last.Edges = last.Edges[1:]
	noStart := ring(6, 625, 64)
	noStart.Start = nil
	missing := ring(6, 625, 64)
	missing.Edges = missing.Edges[1:]
	missing.Edges[0].Marks = 1
	for i, c := range []struct {
		a    api.Automaton
		want api.Errno
	}{
		{states(3000), api.ErrFull}, {states(2999), api.OK}, {last, api.OK}, {whole, api.OK},
		{ring(6, 625, 64), api.OK}, {noStart, api.ErrFull}, {missing, api.ErrFull},
		{ring(6, 600, 64), api.OK}, {ring(6, 600, 63), api.OK}, {ring(6, 600, 1), api.OK},
		{ring(6, 2999, 0), api.OK}, {ring(2, 2999, 3), api.OK}, {ring(4, 2499, 15), api.OK}, {ring(4, 2600, 15), api.ErrFull},
	} {
		f, e := aut.Fill(c.a)
		if e != c.want || e != api.OK && !identical(f, api.Automaton{}) {
			t.Errorf("%d: %d", i, e)
			continue
		}
		if is, _ := aut.Complete(f); e == api.OK && (!is || !aut.Valid(f)) {
			t.Errorf("%d: not complete", i)
		}
	}
	if f, _ := aut.Fill(whole); !identical(f, whole) {
		t.Error("3000 states that are complete")
	}
}

// P5.7: automata that are not valid, or not deterministic, which is checked before the limits
func TestFillErrors(t *testing.T) {
	expect := func(a api.Automaton, want api.Errno) {
		t.Helper()
		if f, e := aut.Fill(a); e != want || !identical(f, api.Automaton{}) {
			t.Errorf("Fill(%.500v) = %.500v, %d", a, f, e)
		}
	}
	for _, a := range invalid() {
		expect(a, api.ErrArg)
	}
	expect(changed(func(a *api.Automaton) { a.Edges[1].Bits = 1 }), api.ErrKind)
	expect(changed(func(a *api.Automaton) { a.Start, a.Edges[1].Bits = nil, 1 }), api.ErrKind)
	expect(changed(func(a *api.Automaton) { a.States, a.Start = 2, []int{0, 1} }), api.ErrKind)
	expect(changed(func(a *api.Automaton) { a.States, a.Start = 3000, []int{0, 1} }), api.ErrKind)
	expect(changed(func(a *api.Automaton) { a.States, a.Edges = 3000, make([]api.Edge, 2) }), api.ErrKind)
}

// Rule 6: no function changes its argument, and results are memory of their own.
func TestEffects(t *testing.T) {
	for _, a := range []api.Automaton{again(), {States: 2, Start: []int{1}, Kind: api.General, Edges: make([]api.Edge, 1, 100)}} {
		before := copied(a)
		w := api.Word{Stem: []int{0}, Loop: []int{0}}
		aut.Valid(a)
		aut.Step(a, 0, 0)
		aut.Walk(a, w)
		aut.Reach(a)
		f, e := aut.Fill(a)
		if e != api.OK || !identical(a, before) {
			t.Fatalf("%v was %v", a, before)
		}
		filled := copied(f)
		for i := range a.Edges {
			a.Edges[i].To = 77
		}
		a.Start[0] = 77
		a.Edges = append(a.Edges, api.Edge{})
		if !identical(f, filled) {
			t.Errorf("%v was %v", f, filled)
		}
	}
}
