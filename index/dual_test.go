package index_test

import (
	"testing"

	"lodesman/api"
	"lodesman/aut"
	"lodesman/index"
)

// dualMarks is what the chapter says of the marks of an edge.
func dualMarks(kind, count, marks int) int {
	set := 0
	switch kind {
	case api.Parity:
		set = 1
		for m := range count {
			if marks>>m&1 == 1 {
				set |= 1 << (m + 1)
			}
		}
	case api.General:
		for m := range count {
			set |= 1 << (2*m + 1)
			if marks>>m&1 == 1 {
				set |= 1 << (2 * m)
			}
		}
	default:
		return marks
	}
	return set
}

// expectDual checks all of what Dual returns.
func expectDual(t *testing.T, a api.Automaton) api.Automaton {
	t.Helper()
	kind := []int{api.CoBuchi, api.Rabin, api.Buchi, api.Streett, api.Rabin, api.Parity}[a.Kind]
	marks := []int{a.Marks, 2 * a.Marks, a.Marks, a.Marks, a.Marks, a.Marks + 1}[a.Kind]
	before := copied(a)
	d, e := index.Dual(a)
	if e != api.OK || !aut.Valid(d) || d.Kind != kind || d.Marks != marks || !identical(a, before) {
		t.Fatalf("Dual(%s) = %s, %d", brief(a), brief(d), e)
	}
	plain := unmarked(d)
	plain.Kind = a.Kind
	if !identical(plain, unmarked(a)) {
		t.Fatalf("Dual(%s) = %s", brief(a), brief(d))
	}
	for i, x := range a.Edges {
		if d.Edges[i].Marks != dualMarks(a.Kind, a.Marks, x.Marks) {
			t.Fatalf("Dual(%s) = %s", brief(a), brief(d))
		}
	}
	return d
}

// P11.4: all kinds, any automata; the sets of edges that a run can take infinitely often are accepted if and only if they were not
func TestDual(t *testing.T) {
	g := generator(9)
	for i := range 3000 {
		kind := kinds[i%6]
		a := g.automaton(kind, g.below(3), 1+g.below(4), g.below(8), g.marksOf(kind, 6))
		d := expectDual(t, a)
		for _, set := range loops(a) {
			if accepts(t, a, set) == accepts(t, d, set) {
				t.Fatalf("Dual(%v) = %v: %b", a, d, set)
			}
		}
	}
}

// P11.7: the words of deterministic and complete automata
func TestDualWords(t *testing.T) {
	g := generator(10)
	for i := range 1200 {
		kind, props := kinds[i%6], g.below(3)
		a := g.single(kind, props, 1+g.below(5), g.marksOf(kind, 5), 0)
		d := expectDual(t, a)
		for _, w := range g.words(props, 6) {
			if has(t, a, w) == has(t, d, w) {
				t.Fatalf("Dual(%v) = %v: %v", a, d, w)
			}
		}
	}
}

// P11.4: exactly as many marks as there may be, and one more
func TestDualLimits(t *testing.T) {
	g := generator(11)
	for _, c := range []struct{ kind, marks int }{{api.Parity, 0}, {api.Parity, 39}, {api.General, 0}, {api.General, 20}, {api.Rabin, 0}, {api.Rabin, 40}, {api.Streett, 40}} {
		expectDual(t, g.automaton(c.kind, 2, 5, 20, c.marks))
		expectDual(t, api.Automaton{Kind: c.kind, Marks: c.marks})
		expectDual(t, g.automaton(c.kind, 6, 3000, 40000, c.marks))
	}
	for _, c := range []struct{ kind, marks int }{{api.Parity, 40}, {api.General, 21}, {api.General, 40}} {
		for _, a := range []api.Automaton{g.automaton(c.kind, 2, 5, 20, c.marks), {Kind: c.kind, Marks: c.marks}} {
			if d, e := index.Dual(a); e != api.ErrFull || !zero(d) {
				t.Errorf("Dual(%v) = %v, %d", a, d, e)
			}
		}
	}
	for _, a := range invalid() {
		if d, e := index.Dual(a); e != api.ErrArg || !zero(d) {
			t.Errorf("Dual(%s) = %s, %d", brief(a), brief(d), e)
		}
	}
}

// P11.4: the results share no memory
func TestDualMemory(t *testing.T) {
	for _, kind := range kinds {
		a := changed(func(a *api.Automaton) { a.Kind, a.Marks = kind, 1+kind/3%2 })
		if kind == api.Streett {
			a.Marks = 2
		}
		d, _ := index.Dual(a)
		b, _ := index.Dual(a)
		kept := copied(b)
		d.Start[0], d.Edges[0].Marks, d.Edges[1].Bits = 7, 77, 7
		if a.Start[0] != 0 || a.Edges[0].Marks != 1 || a.Edges[1].Bits != 0 || !identical(b, kept) {
			t.Errorf("%v", a)
		}
	}
}
