package member_test

import (
	"math"
	"slices"
	"testing"

	"lodesman/api"
	"lodesman/member"
)

// expectRun checks that Run and Has agree with want, and that the run is one, by the definition and by Check.
func expectRun(t *testing.T, a api.Automaton, w api.Word, want bool) {
	t.Helper()
	is, e := member.Has(a, w)
	if is != want || e != api.OK {
		t.Fatalf("Has(%.500v, %v) = %t, %d", a, w, is, e)
	}
	stem, loop, e := member.Run(a, w)
	if !want {
		if e != api.ErrNone || len(stem) > 0 || len(loop) > 0 {
			t.Fatalf("Run(%.500v, %v) = %v, %v, %d", a, w, stem, loop, e)
		}
		return
	}
	if e != api.OK || !isRun(a, w, stem, loop) {
		t.Fatalf("Run(%.500v, %v) = %.200v, %.200v, %d", a, w, stem, loop, e)
	}
	if ok, e := member.Check(a, w, stem, loop); !ok || e != api.OK {
		t.Fatalf("Check(%.500v, %v, %.200v, %.200v) = %t, %d", a, w, stem, loop, ok, e)
	}
}

// P6.1, P6.4 and P6.7: automata with any edges
func TestHasRun(t *testing.T) {
	g := generator(1)
	for _, kind := range kinds {
		found := map[bool]int{}
		for range 3000 {
			a := g.automaton(kind, g.below(3), 1+g.below(4), g.below(14), 4)
			for range 4 {
				w := g.word(a.Props, g.below(3), 1+g.below(4))
				want := has(a, w)
				found[want]++
				expectRun(t, a, w, want)
			}
		}
		if found[true] < 1000 || found[false] < 1000 {
			t.Errorf("kind %d: %v", kind, found)
		}
	}
}

// P6.1, P6.4 and P6.7: many marks, so that loops have to avoid some of them
func TestHasRunMarks(t *testing.T) {
	g := generator(2)
	for _, kind := range []int{api.General, api.Rabin, api.Streett, api.Parity} {
		found := map[bool]int{}
		for range 800 {
			a := g.automaton(kind, 1, 2+g.below(5), 8+g.below(14), 8)
			w := g.word(1, g.below(2), 1+g.below(3))
			want := has(a, w)
			found[want]++
			expectRun(t, a, w, want)
		}
		if found[true] < 50 || found[false] < 50 {
			t.Errorf("kind %d: %v", kind, found)
		}
	}
}

// P6.1, P6.4 and P6.7: all automata with one state, one proposition, two marks and up to three edges, and many small words
func TestHasRunSmall(t *testing.T) {
	var edges []api.Edge
	for _, cube := range [][2]int{{0, 0}, {1, 0}, {1, 1}} {
		for marks := range 4 {
			edges = append(edges, api.Edge{Care: cube[0], Bits: cube[1], Marks: marks})
		}
	}
	words := smallWords(1, 1, 2)
	for _, list := range lists(len(edges), 3) {
		if !slices.IsSorted(list) {
			continue
		}
		for _, kind := range []int{api.General, api.Rabin, api.Streett, api.Parity} {
			a := api.Automaton{Props: 1, States: 1, Start: []int{0}, Kind: kind, Marks: 2}
			for _, i := range list {
				a.Edges = append(a.Edges, edges[i])
			}
			for _, w := range words {
				expectRun(t, a, w, has(a, w))
			}
		}
	}
}

// P6.1 and P6.4: examples, and automata without states, Start states, edges or marks
func TestHasRunCases(t *testing.T) {
	streett := changed(func(a *api.Automaton) { a.Kind, a.Marks, a.Edges[0].Marks = api.Streett, 2, 2 })
	of := func(kind, marks int, edges ...api.Edge) api.Automaton {
		return api.Automaton{States: 1, Start: []int{0}, Kind: kind, Marks: marks, Edges: edges}
	}
	zero, mixed := api.Word{Loop: []int{0}}, api.Word{Loop: []int{0, 1}}
	late := api.Word{Stem: []int{1, 1, 1}, Loop: []int{0}}
	for i, c := range []struct {
		a    api.Automaton
		w    api.Word
		want bool
	}{
		{again(), mixed, true}, {again(), api.Word{Stem: []int{1}, Loop: []int{0}}, false},
		{streett, late, true}, {streett, mixed, false}, {streett, zero, true},
		{api.Automaton{Marks: 1}, zero, false}, {api.Automaton{Kind: api.General}, zero, false},
		{of(api.General, 0), zero, false}, {of(api.General, 0, api.Edge{}), zero, true},
		{of(api.CoBuchi, 1, api.Edge{}), zero, true}, {of(api.CoBuchi, 1, api.Edge{Marks: 1}), zero, false}, {of(api.CoBuchi, 1, api.Edge{Marks: 1}, api.Edge{}), zero, true},
		{of(api.Rabin, 0, api.Edge{}), zero, false}, {of(api.Streett, 0, api.Edge{}), zero, true},
		{of(api.Parity, 0, api.Edge{}), zero, false}, {of(api.Parity, 3, api.Edge{}), zero, false}, {of(api.Parity, 3, api.Edge{Marks: 7}), zero, true},
		{of(api.Parity, 3, api.Edge{Marks: 2}), zero, false}, {of(api.Parity, 3, api.Edge{Marks: 2}, api.Edge{Marks: 4}), zero, true}, {of(api.Parity, 3, api.Edge{Marks: 3}, api.Edge{Marks: 1}), zero, true},
		{of(api.Rabin, 2, api.Edge{Marks: 3}), zero, false}, {of(api.Rabin, 4, api.Edge{Marks: 11}), zero, true},
		{of(api.Streett, 4, api.Edge{Marks: 2}, api.Edge{Marks: 9}), zero, false}, {of(api.Streett, 4, api.Edge{Marks: 6}, api.Edge{Marks: 9}), zero, true},
		{changed(func(a *api.Automaton) { a.Start = nil }), mixed, false},
	} {
		is, e := member.Has(c.a, c.w)
		if is != c.want || e != api.OK {
			t.Errorf("%d: %t, %d", i, is, e)
		}
		expectRun(t, c.a, c.w, c.want)
	}
}

// crowd is an automaton with as many states and edges as are permitted, which lead from each state to the next one and the one behind it.
func crowd(kind, marks int, marksOf func(i int) int) api.Automaton {
	a := api.Automaton{Props: 1, States: 3000, Start: []int{0, 2999}, Kind: kind, Marks: marks}
	for i := range 40000 {
		a.Edges = append(a.Edges, api.Edge{From: i % 3000, To: (i + 1 + i%7) % 3000, Marks: marksOf(i)})
	}
	return a
}

// P6.1, P6.4 and P6.7: the largest automata and words; for most kinds the words are shorter, so that the test does not take long
func TestHasRunLarge(t *testing.T) {
	short, long := api.Word{Loop: append(make([]int, 18), 1)}, api.Word{Loop: append(make([]int, 198), 1)}
	bit := func(m, marks int) int { return 1 << m & (1<<marks - 1) }
	for _, c := range []struct {
		kind, marks int
		marksOf     func(i int) int
		want        bool
	}{
		{api.Buchi, 1, func(i int) int { return bit(i, 1) }, true},
		{api.Buchi, 1, func(int) int { return 0 }, false},
		{api.General, 40, func(i int) int { return bit(i/1000, 40) }, true},
		{api.General, 40, func(i int) int { return bit(i%39, 40) }, false},
		{api.CoBuchi, 1, func(i int) int { return i % 2 }, true},
		{api.CoBuchi, 1, func(i int) int { return 1 }, false},
		{api.Rabin, 40, func(i int) int { return 3 << (i % 20 * 2) }, false},
		{api.Rabin, 40, func(i int) int { return 2 << (i % 20 * 2) }, true},
		{api.Streett, 40, func(i int) int { return 2 << (i % 20 * 2) }, false},
		{api.Streett, 40, func(i int) int { return 3 << (i % 20 * 2) }, true},
		{api.Parity, 40, func(i int) int { return 2 << (i % 20 * 2) }, false},
		{api.Parity, 40, func(i int) int { return bit(39-i%40, 40) }, true},
	} {
		expectRun(t, crowd(c.kind, c.marks, c.marksOf), short, c.want)
	}
	expectRun(t, crowd(api.Parity, 40, func(i int) int { return 1 << (39 - i%40) }), long, true)
	// A single cycle of 3000 * 199 states and positions, with a mark at one of them.
	a := ring(api.Buchi, 1, 1, 3000)
	a.Edges[17] = api.Edge{From: 17, To: 18, Care: 1}
	a.Edges = append(a.Edges, api.Edge{From: 17, To: 18, Care: 1, Bits: 1, Marks: 1})
	expectRun(t, a, long, true)
	a.Edges = a.Edges[:3000]
	expectRun(t, a, long, false)
}

// P6.5: lists that are nearly runs, and lists that are not at all
func TestCheck(t *testing.T) {
	g := generator(3)
	found := map[bool]int{}
	for i := range 12000 {
		a := g.automaton(kinds[i%6], g.below(2), 1+g.below(3), 4+g.below(10), 3)
		w := g.word(a.Props, g.below(3), 1+g.below(3))
		stem, loop, e := member.Run(a, w)
		if e != api.OK {
			continue
		}
		for range 6 {
			s, l := altered(&g, stem, len(a.Edges)), altered(&g, loop, len(a.Edges))
			want := isRun(a, w, s, l)
			found[want]++
			if is, e := member.Check(a, w, s, l); is != want || e != api.OK {
				t.Fatalf("Check(%v, %v, %v, %v) = %t, %d", a, w, s, l, is, e)
			}
		}
	}
	if found[true] < 1000 || found[false] < 1000 {
		t.Errorf("%v", found)
	}
}

// altered is a list with an element more, less or changed, or repeated, or as it was.
func altered(g *generator, list []int, below int) []int {
	list = slices.Clone(list)
	at := g.below(len(list) + 1)
	switch g.below(8) {
	case 0:
		return slices.Insert(list, at, g.below(below))
	case 1:
		return slices.Concat(list[:at], list[min(at+1, len(list)):])
	case 2:
		return slices.Concat(list, list)
	case 3:
		if at < len(list) {
			list[at] = g.below(below)
		}
	}
	return list
}

// P6.5: each condition of a run
func TestCheckCases(t *testing.T) {
	a := api.Automaton{Props: 1, States: 3, Start: []int{0}, Kind: api.Buchi, Marks: 1, Edges: []api.Edge{
		{From: 0, To: 1, Care: 1, Bits: 1}, {From: 1, To: 1, Care: 1}, {From: 1, To: 1, Care: 1, Marks: 1}, {From: 1, To: 2}, {From: 2, To: 1, Marks: 1}, {From: 2, To: 2, Marks: 1},
	}}
	single := api.Word{Stem: []int{1}, Loop: []int{0}}
	twice := api.Word{Stem: []int{1}, Loop: []int{0, 0, 0}}
	other := api.Word{Stem: []int{1}, Loop: []int{0, 1}}
	none := []int{}
	for i, c := range []struct {
		w          api.Word
		stem, loop []int
		want       bool
	}{
		{single, []int{0}, []int{2}, true}, {twice, []int{0}, []int{2}, true}, {twice, []int{0, 1, 1, 1}, []int{1, 1, 2, 1, 1}, true},
		{single, []int{0}, none, false}, {single, none, none, false}, {single, []int{0, 2}, none, false},
		{single, []int{0}, []int{1}, false}, {single, []int{0, 2}, []int{1}, false},
		{single, none, []int{2}, false}, {single, []int{2}, []int{2}, false},
		{single, []int{0, 3}, []int{2}, false}, {single, []int{0, 3}, []int{4, 3}, true}, {single, []int{0, 3}, []int{4}, false}, {single, []int{0}, []int{4, 3}, false},
		{single, []int{0}, []int{3, 4}, true}, {single, []int{0}, []int{3, 5, 5, 4}, true}, {single, []int{0}, []int{3, 5}, false},
		{other, []int{0}, []int{3, 4}, true}, {other, []int{0}, []int{2, 2}, false}, {other, []int{0}, []int{3, 5, 4}, false}, {other, []int{0}, []int{2, 3, 4}, false},
		{other, []int{0, 3}, []int{5}, false}, {other, []int{0, 3}, []int{5, 5}, true}, {other, []int{0, 3, 5}, []int{5, 5}, true}, {other, []int{0}, []int{3, 4, 3, 4}, true},
		{api.Word{Loop: []int{1}}, []int{0}, []int{2}, false}, {api.Word{Loop: []int{1}}, []int{0}, []int{3, 4}, true}, {api.Word{Loop: []int{0}}, []int{0}, []int{3, 4}, false},
		{single, []int{0}, slices.Repeat([]int{2}, 100000), true}, {other, []int{0}, append(slices.Repeat([]int{3, 4}, 50000), 2), false},
	} {
		if is, e := member.Check(a, c.w, c.stem, c.loop); is != c.want || e != api.OK || is != isRun(a, c.w, c.stem, c.loop) {
			t.Errorf("%d: %t, %d", i, is, e)
		}
	}
}

// P6.1, P6.4 and P6.5: automata that are not valid, words that are not valid over the propositions, and no edges
func TestWordErrors(t *testing.T) {
	expect := func(a api.Automaton, w api.Word, list []int, want api.Errno) {
		t.Helper()
		if is, e := member.Check(a, w, list, list); is || e != want {
			t.Errorf("Check(%.300v, %.300v, %v) = %t, %d", a, w, list, is, e)
		}
		if want == api.ErrRange {
			return
		}
		if is, e := member.Has(a, w); is || e != want {
			t.Errorf("Has(%.300v, %.300v) = %t, %d", a, w, is, e)
		}
		if stem, loop, e := member.Run(a, w); len(stem) > 0 || len(loop) > 0 || e != want {
			t.Errorf("Run(%.300v, %.300v) = %v, %v, %d", a, w, stem, loop, e)
		}
	}
	for _, a := range invalid() {
		expect(a, api.Word{Loop: []int{0}}, nil, api.ErrArg)
		expect(a, api.Word{}, []int{0}, api.ErrArg)
		expect(a, api.Word{Loop: []int{-1}}, []int{-1}, api.ErrArg)
	}
	for props := range 6 {
		a := ring(api.General, 0, props, 2)
		for _, w := range invalidWords(props) {
			expect(a, w, nil, api.ErrDim)
			expect(a, w, []int{0}, api.ErrDim)
			expect(a, w, []int{-1}, api.ErrDim)
		}
		for _, i := range []int{-1, 2, math.MinInt, math.MaxInt} {
			expect(a, api.Word{Loop: []int{0}}, []int{0, i}, api.ErrRange)
			if is, e := member.Check(a, api.Word{Loop: []int{0}}, []int{i}, nil); is || e != api.ErrRange {
				t.Errorf("stem %d: %t, %d", i, is, e)
			}
			if is, e := member.Check(a, api.Word{Loop: []int{0}}, nil, []int{i}); is || e != api.ErrRange {
				t.Errorf("loop %d: %t, %d", i, is, e)
			}
		}
	}
	expect(api.Automaton{States: 1, Start: []int{0}, Kind: api.General}, api.Word{Loop: []int{0}}, []int{0}, api.ErrRange)
}
