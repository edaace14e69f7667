package aut_test

import (
	"math"
	"slices"
	"testing"

	"lodesman/api"
	"lodesman/aut"
)

// P5.1
func TestValid(t *testing.T) {
	for i, a := range invalid() {
		if aut.Valid(a) {
			t.Errorf("%d: %.500v", i, a)
		}
	}
	for i, a := range []api.Automaton{
		again(), {Marks: 1}, {Kind: api.General}, {Kind: api.Parity}, {Kind: api.Rabin}, {Kind: api.Streett}, {Kind: api.CoBuchi, Marks: 1},
		{Kind: api.General, Marks: 40}, {Kind: api.Parity, Marks: 40}, {Kind: api.Parity, Marks: 39}, {Kind: api.Rabin, Marks: 40}, {Kind: api.Streett, Marks: 40},
		{Props: 6, States: 3000, Start: []int{0, 17, 2999}, Marks: 1},
		{Props: 6, States: 1, Kind: api.Parity, Marks: 40, Edges: []api.Edge{{Care: 63, Bits: 63, Marks: 1<<40 - 1}, {Care: 63}, {Care: 5, Bits: 4}, {Care: 5, Bits: 4}}},
		changed(func(a *api.Automaton) { a.Edges = make([]api.Edge, api.MaxEdges) }),
		changed(func(a *api.Automaton) { a.Start = nil }),
	} {
		if !aut.Valid(a) {
			t.Errorf("%d: %.500v", i, a)
		}
	}
}

// P5.1: subsets of masks, and ranges of marks
func TestValidEdges(t *testing.T) {
	for care := range 64 {
		for bits := range 64 {
			a := api.Automaton{Props: 6, States: 1, Marks: 1, Edges: []api.Edge{{Care: care, Bits: bits}}}
			if aut.Valid(a) != (bits|care == care) {
				t.Errorf("%d, %d", care, bits)
			}
		}
	}
	for _, kind := range kinds {
		for marks := range 41 {
			for _, m := range []int{-1, 0, 1<<marks - 1, 1 << marks, 1 << 62} {
				a := api.Automaton{States: 1, Kind: kind, Marks: marks, Edges: []api.Edge{{Marks: m}}}
				permitted := []bool{marks == 1, true, marks == 1, marks%2 == 0, marks%2 == 0, true}[kind]
				if aut.Valid(a) != (permitted && m >= 0 && m < 1<<marks) {
					t.Errorf("kind %d, %d marks, %d", kind, marks, m)
				}
			}
		}
	}
}

// P5.2 and P5.9
func TestAccepts(t *testing.T) {
	for _, kind := range kinds {
		for marks := range 11 {
			if (kind == api.Buchi || kind == api.CoBuchi) && marks != 1 || (kind == api.Rabin || kind == api.Streett) && marks%2 == 1 {
				continue
			}
			for inf := range 1 << marks {
				if is, e := aut.Accepts(kind, marks, inf); is != accepts(kind, marks, inf) || e != api.OK {
					t.Errorf("Accepts(%d, %d, %d) = %t, %d", kind, marks, inf, is, e)
				}
			}
		}
	}
	for marks := 0; marks <= 10; marks += 2 {
		for inf := range 1 << marks {
			rabin, _ := aut.Accepts(api.Rabin, marks, inf)
			streett, _ := aut.Accepts(api.Streett, marks, inf)
			if rabin == streett {
				t.Errorf("%d marks, %d: %t", marks, inf, rabin)
			}
		}
	}
}

// P5.2: single cases, among them 40 marks and none
func TestAcceptsCases(t *testing.T) {
	for _, c := range []struct {
		kind, marks, inf int
		want             bool
	}{
		{api.Rabin, 4, 10, true}, {api.Streett, 2, 2, false}, {api.Parity, 4, 5, true},
		{api.General, 0, 0, true}, {api.Parity, 0, 0, false}, {api.Rabin, 0, 0, false}, {api.Streett, 0, 0, true},
		{api.Buchi, 1, 0, false}, {api.Buchi, 1, 1, true}, {api.CoBuchi, 1, 0, true}, {api.CoBuchi, 1, 1, false},
		{api.Parity, 40, 0, false}, {api.Parity, 40, 1<<40 - 1, false}, {api.Parity, 40, 1<<39 - 1, true}, {api.Parity, 40, 1, true}, {api.Parity, 40, 2, false},
		{api.General, 40, 1<<40 - 1, true}, {api.General, 40, 1<<40 - 2, false}, {api.General, 40, 1<<39 - 1, false},
		{api.Rabin, 40, 1 << 39, true}, {api.Rabin, 40, 3 << 38, false}, {api.Rabin, 40, 3<<38 | 2, true}, {api.Rabin, 40, 1<<40 - 1, false},
		{api.Streett, 40, 1 << 39, false}, {api.Streett, 40, 3 << 38, true}, {api.Streett, 40, 1 << 38, true}, {api.Streett, 40, 0, true},
	} {
		if is, e := aut.Accepts(c.kind, c.marks, c.inf); is != c.want || e != api.OK {
			t.Errorf("Accepts(%d, %d, %d) = %t, %d", c.kind, c.marks, c.inf, is, e)
		}
	}
}

// P5.2: the errors in their order
func TestAcceptsErrors(t *testing.T) {
	for _, kind := range numbers() {
		for _, marks := range numbers() {
			for _, inf := range numbers() {
				permitted := marks >= 0 && marks <= 40
				want := api.OK
				switch {
				case kind < 0 || kind > 5:
					want = api.ErrKind
				case !permitted, kind%2 == 0 && kind < 4 && marks != 1, (kind == 3 || kind == 4) && marks%2 == 1:
					want = api.ErrArg
				case inf < 0 || inf >= 1<<marks:
					want = api.ErrRange
				}
				is, e := aut.Accepts(kind, marks, inf)
				if e != want || e != api.OK && is {
					t.Errorf("Accepts(%d, %d, %d) = %t, %d", kind, marks, inf, is, e)
				}
			}
		}
	}
}

// P5.3
func TestStep(t *testing.T) {
	g := generator(1)
	for range 300 {
		a := g.automaton(g.below(4), 1+g.below(4), g.below(12))
		for s := range a.States {
			for l := range 1 << a.Props {
				var want []int
				for i, e := range a.Edges {
					if e.From == s && l&e.Care == e.Bits {
						want = append(want, i)
					}
				}
				if list, e := aut.Step(a, s, l); !slices.Equal(list, want) || e != api.OK {
					t.Fatalf("Step(%v, %d, %d) = %v, %d", a, s, l, list, e)
				}
			}
		}
	}
}

// P5.3: numbers outside their ranges, and automata that are not valid
func TestStepErrors(t *testing.T) {
	for _, props := range []int{0, 1, 6} {
		a := ring(props, 2, 1)
		for _, n := range numbers() {
			if list, e := aut.Step(a, n, 0); (e == api.OK) != (n == 0 || n == 1) || e != api.OK && (e != api.ErrRange || len(list) > 0) {
				t.Errorf("state %d: %v, %d", n, list, e)
			}
			if list, e := aut.Step(a, 0, n); (e == api.OK) != (n >= 0 && n < 1<<props) || e != api.OK && (e != api.ErrRange || len(list) > 0) {
				t.Errorf("letter %d: %v, %d", n, list, e)
			}
			for _, bad := range invalid() {
				if list, e := aut.Step(bad, n, -n); e != api.ErrArg || len(list) > 0 {
					t.Fatalf("%.500v: %v, %d", bad, list, e)
				}
			}
		}
	}
}

// P5.4
func TestDeterministicComplete(t *testing.T) {
	g := generator(2)
	found := map[[2]bool]int{}
	for i := range 3000 {
		a := g.automaton(g.below(4), g.below(3)+1, g.below(8))
		if i%2 == 0 {
			a = g.single(g.below(3), g.below(3)+1, g.below(30))
		}
		is, e := aut.Deterministic(a)
		full, f := aut.Complete(a)
		if is != deterministic(a) || full != complete(a) || e != api.OK || f != api.OK {
			t.Fatalf("%v: %t, %t", a, is, full)
		}
		found[[2]bool{is, full}]++
	}
	if len(found) != 4 {
		t.Errorf("not all cases: %v", found)
	}
}

// P5.4: single cases
func TestDeterministicCompleteCases(t *testing.T) {
	for i, c := range []struct {
		a        api.Automaton
		is, full bool
	}{
		{again(), true, true},
		{api.Automaton{Marks: 1}, false, true},
		{api.Automaton{States: 1, Start: []int{0}, Marks: 1}, true, false},
		{api.Automaton{States: 1, Start: []int{0}, Marks: 1, Edges: make([]api.Edge, 1)}, true, true},
		{api.Automaton{States: 1, Start: []int{0}, Marks: 1, Edges: make([]api.Edge, 2)}, false, true},
		{api.Automaton{States: 1, Marks: 1, Edges: make([]api.Edge, 1)}, false, true},
		{changed(func(a *api.Automaton) { a.States, a.Start = 2, []int{0, 1} }), false, false},
		// A state that is not reachable counts too.
		{changed(func(a *api.Automaton) { a.States, a.Edges = 2, append(a.Edges, api.Edge{From: 1}) }), true, true},
		{changed(func(a *api.Automaton) { a.States, a.Edges = 2, append(a.Edges, api.Edge{From: 1}, api.Edge{From: 1}) }), false, true},
		{changed(func(a *api.Automaton) { a.States = 2 }), true, false},
		{changed(func(a *api.Automaton) { a.Props, a.Edges[1] = 2, api.Edge{Care: 3, Bits: 2} }), true, false},
		{changed(func(a *api.Automaton) { a.Props, a.Edges[1] = 2, api.Edge{Care: 2, Bits: 2} }), false, false},
		{ring(6, 625, 64), true, true},
		{ring(6, 625, 63), true, false},
		{ring(0, 3000, 1), true, true},
	} {
		is, e := aut.Deterministic(c.a)
		full, f := aut.Complete(c.a)
		if is != c.is || full != c.full || e != api.OK || f != api.OK {
			t.Errorf("%d: %t, %t", i, is, full)
		}
	}
	for _, a := range invalid() {
		if is, e := aut.Deterministic(a); is || e != api.ErrArg {
			t.Errorf("%.500v: %t, %d", a, is, e)
		}
		if is, e := aut.Complete(a); is || e != api.ErrArg {
			t.Errorf("%.500v: %t, %d", a, is, e)
		}
	}
}

// P5.6
func TestReach(t *testing.T) {
	g := generator(3)
	for range 2000 {
		a := g.automaton(g.below(3), 1+g.below(7), g.below(10))
		want := make([]bool, a.States)
		for _, s := range a.Start {
			want[s] = true
		}
		for range a.States {
			for _, e := range a.Edges {
				want[e.To] = want[e.To] || want[e.From]
			}
		}
		if is, e := aut.Reach(a); !slices.Equal(is, want) || e != api.OK {
			t.Fatalf("Reach(%v) = %v, %d", a, is, e)
		}
	}
	if is, e := aut.Reach(api.Automaton{Kind: api.General}); len(is) != 0 || e != api.OK {
		t.Errorf("%v, %d", is, e)
	}
	if is, e := aut.Reach(ring(6, 625, 64)); len(is) != 625 || slices.Contains(is, false) || e != api.OK {
		t.Errorf("%v, %d", is, e)
	}
	for _, a := range invalid() {
		if is, e := aut.Reach(a); len(is) > 0 || e != api.ErrArg {
			t.Errorf("%.500v: %v, %d", a, is, e)
		}
	}
}

// limit is a number of steps behind which a run on w repeats what it did before, that many steps ago at most.
func limit(a api.Automaton, w api.Word) int { return len(w.Stem) + a.States*len(w.Loop) }

// run follows the run for twice that many steps and returns the marks of the second half.
func run(a api.Automaton, w api.Word) (inf int, dead bool) {
	s, most := a.Start[0], limit(a, w)
	for k := range 2 * most {
		l := 0
		if k < len(w.Stem) {
			l = w.Stem[k]
		} else {
			l = w.Loop[(k-len(w.Stem))%len(w.Loop)]
		}
		i := slices.IndexFunc(a.Edges, func(e api.Edge) bool { return e.From == s && l&e.Care == e.Bits })
		if i < 0 {
			return 0, true
		}
		s = a.Edges[i].To
		if k >= most {
			inf |= a.Edges[i].Marks
		}
	}
	return inf, false
}

// P5.5 and P5.8
func TestWalk(t *testing.T) {
	g := generator(4)
	alive, many := 0, 0
	for range 20000 {
		a := g.single(g.below(3), 1+g.below(5), 4+g.below(40))
		if len(a.Start) == 0 {
			continue
		}
		w := api.Word{Stem: g.list(g.below(4), a.Props), Loop: g.list(1+g.below(4), a.Props)}
		wantInf, wantDead := run(a, w)
		inf, dead, e := aut.Walk(a, w)
		if inf != wantInf || dead != wantDead || e != api.OK {
			t.Fatalf("Walk(%v, %v) = %d, %t, %d, but not %d, %t", a, w, inf, dead, e, wantInf, wantDead)
		}
		if !dead {
			alive++
		}
		if inf&(inf-1) != 0 {
			many++
		}
	}
	if alive < 1000 || many < 100 {
		t.Errorf("%d runs, %d with many marks", alive, many)
	}
}

// P5.5 and P5.8: long runs; a run that ends late; marks that are met once, or only in some rounds
func TestWalkCases(t *testing.T) {
	long := ring(1, 3000, 2)
	long.Kind, long.Marks = api.Parity, 40
	long.Edges[2*2998].Marks, long.Edges[2*2999+1].Marks = 1<<39, 1
	zeros := func(n int) []int { return make([]int, n) }
	onlyOne := api.Word{Stem: []int{1}, Loop: zeros(199)}
	broken := ring(1, 3000, 1)
	once := api.Automaton{States: 3, Start: []int{0}, Kind: api.General, Marks: 3, Edges: []api.Edge{{To: 1, Marks: 1}, {From: 1, To: 2, Marks: 2}, {From: 2, To: 1, Marks: 4}}}
	for i, c := range []struct {
		a    api.Automaton
		w    api.Word
		inf  int
		dead bool
	}{
		{again(), api.Word{Stem: []int{1}, Loop: []int{0}}, 0, false},
		{again(), api.Word{Loop: []int{0, 1}}, 1, false},
		{once, api.Word{Loop: []int{0}}, 6, false},
		{once, api.Word{Loop: zeros(200)}, 6, false},
		{long, onlyOne, 1 << 39, false},
		{long, api.Word{Stem: zeros(2), Loop: append(zeros(186), 1)}, 1<<39 + 1, false},
		{long, api.Word{Loop: []int{0, 1}}, 1<<39 + 1, false},
		{long, api.Word{Loop: []int{1, 0}}, 0, false},
		{broken, onlyOne, 0, true},
		{broken, api.Word{Loop: append(zeros(199), 1)}, 0, true},
		{broken, api.Word{Loop: zeros(200)}, 0, false},
		{changed(func(a *api.Automaton) { a.Edges = nil }), api.Word{Loop: []int{0}}, 0, true},
		{changed(func(a *api.Automaton) { a.Edges = a.Edges[:1] }), api.Word{Stem: []int{1, 1, 0}, Loop: []int{1}}, 0, true},
		{changed(func(a *api.Automaton) { a.Edges = a.Edges[:1] }), api.Word{Stem: []int{1, 1}, Loop: []int{1}}, 1, false},
	} {
		if inf, dead, e := aut.Walk(c.a, c.w); inf != c.inf || dead != c.dead || e != api.OK {
			t.Errorf("%d: %d, %t, %d", i, inf, dead, e)
		}
	}
}

// P5.5: the errors in their order
func TestWalkErrors(t *testing.T) {
	expect := func(a api.Automaton, w api.Word, want api.Errno) {
		t.Helper()
		if inf, dead, e := aut.Walk(a, w); inf != 0 || dead || e != want {
			t.Errorf("Walk(%.500v, %.500v) = %d, %t, %d", a, w, inf, dead, e)
		}
	}
	several := changed(func(a *api.Automaton) { a.Edges = append(a.Edges, a.Edges[0]) })
	noStart := changed(func(a *api.Automaton) { a.Start = nil })
	words := []api.Word{{}, {Stem: []int{0}}, {Loop: []int{2}}, {Loop: []int{-1}}, {Stem: []int{2}, Loop: []int{0}}, {Loop: []int{64}}, {Stem: []int{math.MinInt}, Loop: []int{0}}, {Loop: make([]int, 201)}, {Stem: make([]int, 200), Loop: []int{0}}}
	for _, w := range words {
		for _, a := range invalid() {
			expect(a, w, api.ErrArg)
		}
		expect(several, w, api.ErrKind)
		expect(noStart, w, api.ErrKind)
		expect(again(), w, api.ErrDim)
	}
	expect(several, api.Word{Loop: []int{0}}, api.ErrKind)
	expect(ring(0, 1, 1), api.Word{Loop: []int{1}}, api.ErrDim)
}
