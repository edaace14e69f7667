package member_test

import (
	"slices"
	"testing"

	"lodesman/api"
	"lodesman/member"
	"lodesman/word"
)

// expectSome checks Empty and Some against want, by Has.
func expectSome(t *testing.T, a api.Automaton, want bool) {
	t.Helper()
	is, e := member.Empty(a)
	if is == want || e != api.OK {
		t.Fatalf("Empty(%.500v) = %t, %d", a, is, e)
	}
	w, e := member.Some(a)
	if !want {
		if e != api.ErrNone || len(w.Stem) > 0 || len(w.Loop) > 0 {
			t.Fatalf("Some(%.500v) = %v, %d", a, w, e)
		}
		return
	}
	if e != api.OK || !word.Valid(w, a.Props) {
		t.Fatalf("Some(%.500v) = %v, %d", a, w, e)
	}
	if is, e := member.Has(a, w); !is || e != api.OK {
		t.Fatalf("Has(%.500v, %v) = %t, %d", a, w, is, e)
	}
}

// P6.2, P6.3 and P6.8
func TestLiveEmptySome(t *testing.T) {
	g := generator(4)
	words := smallWords(2, 1, 2)
	for _, kind := range kinds {
		found := map[bool]int{}
		for range 2500 {
			a := g.automaton(kind, g.below(3), 1+g.below(5), g.below(12), 5)
			list, e := member.Live(a)
			if len(list) != a.States || e != api.OK {
				t.Fatalf("Live(%v) = %v, %d", a, list, e)
			}
			for s, is := range list {
				if is != live(a, s) {
					t.Fatalf("Live(%v) = %v", a, list)
				}
			}
			want := live(a, a.Start...)
			found[want]++
			expectSome(t, a, want)
			for _, w := range words {
				if want || !word.Valid(w, a.Props) {
					continue
				}
				if is, _ := member.Has(a, w); is {
					t.Fatalf("Has(%v, %v), but it has no words", a, w)
				}
			}
		}
		if found[true] < 300 || found[false] < 300 {
			t.Errorf("kind %d: %v", kind, found)
		}
	}
}

// P6.2 and P6.3: single cases
func TestLiveCases(t *testing.T) {
	// State 3 is not reachable, and 2 is a dead end.
	edges := []api.Edge{{From: 0, To: 1}, {From: 0, To: 2}, {From: 1, To: 1, Marks: 2}, {From: 1, To: 1, Marks: 1}, {From: 3, To: 0}}
	of := func(kind int, start ...int) api.Automaton {
		return api.Automaton{States: 4, Start: start, Kind: kind, Marks: 2, Edges: edges}
	}
	for i, c := range []struct {
		a           api.Automaton
		live, empty string
	}{
		{of(api.General, 0), "++-+", "no"}, {of(api.Parity, 0), "++-+", "no"}, {of(api.Rabin, 0, 2), "++-+", "no"}, {of(api.Streett, 3), "++-+", "no"},
		{of(api.General, 2), "++-+", "yes"}, {of(api.General), "++-+", "yes"},
		{api.Automaton{Marks: 1}, "", "yes"}, {api.Automaton{Kind: api.General}, "", "yes"}, {api.Automaton{Kind: api.General, States: 2, Start: []int{0, 1}}, "--", "yes"},
		{again(), "+", "no"}, {changed(func(a *api.Automaton) { a.Edges[0].Marks = 0 }), "-", "yes"},
		{changed(func(a *api.Automaton) { a.Kind, a.Edges = api.CoBuchi, a.Edges[:1] }), "-", "yes"}, {changed(func(a *api.Automaton) { a.Kind = api.CoBuchi }), "+", "no"},
		{ring(api.Parity, 0, 0, 2), "--", "yes"}, {ring(api.Rabin, 0, 0, 2), "--", "yes"}, {ring(api.Streett, 0, 0, 2), "++", "no"}, {ring(api.General, 0, 0, 2), "++", "no"},
	} {
		list, _ := member.Live(c.a)
		text := ""
		for _, is := range list {
			text += map[bool]string{true: "+", false: "-"}[is]
		}
		if is, _ := member.Empty(c.a); text != c.live || is != (c.empty == "yes") {
			t.Errorf("%d: %s, %t", i, text, is)
		}
		expectSome(t, c.a, c.empty == "no")
	}
}

// P6.3: with at most 12 reachable states and 10 marks there is always a word, even if each mark is at the other end of a ring, and whatever cannot be reached
func TestSomeShort(t *testing.T) {
	for _, kind := range []int{api.General, api.Streett, api.Parity, api.Rabin} {
		a := ring(kind, 10, 4, 12)
		for i := range a.Edges {
			// Letters that are all different, so that no shorter word has the same run.
			a.Edges[i].Care, a.Edges[i].Bits = 15, i
		}
		for m := range 10 {
			marks := 1 << m
			if kind == api.Streett {
				marks |= 1 << (m ^ 1)
			}
			at := (24 - m) % 12
			a.Edges = append(a.Edges, api.Edge{From: at, To: (at + 1) % 12, Care: 15, Bits: 12 + m%4, Marks: marks})
		}
		expectSome(t, a, true)
		a.States = 3000
		for s := 12; s < 3000; s++ {
			a.Edges = append(a.Edges, api.Edge{From: s, To: (s + 1) % 3000, Care: 15})
		}
		expectSome(t, a, true)
	}
	g := generator(5)
	for i := range 3000 {
		a := g.automaton(kinds[i%6], 3, 12, 12+g.below(14), 10)
		expectSome(t, a, live(a, a.Start...))
	}
}

// P6.3: long loops. A word is found if it is short enough, and otherwise there is ErrFull, but not ErrNone.
func TestSomeLong(t *testing.T) {
	line := ring(api.Buchi, 1, 1, 3000)
	line.Edges[2999] = api.Edge{From: 2999, To: 2999, Marks: 1}
	expectSome(t, line, true)
	whole := ring(api.Buchi, 1, 6, 200)
	whole.Edges[199].Marks = 1
	for i := range whole.Edges {
		whole.Edges[i].Care, whole.Edges[i].Bits = 63, i%64
	}
	expectSome(t, whole, true)
	long := ring(api.Buchi, 1, 1, 3000)
	long.Edges[7].Marks = 1
	for i := range long.Edges {
		long.Edges[i].Care, long.Edges[i].Bits = 1, i*i/1000%2
	}
	if is, e := member.Empty(long); is || e != api.OK {
		t.Errorf("Empty: %t, %d", is, e)
	}
	if w, e := member.Some(long); e != api.ErrFull || len(w.Stem) > 0 || len(w.Loop) > 0 {
		t.Errorf("Some: %v, %d", w, e)
	}
	// One of the regions has a short loop.
	long.Start, long.States = []int{0, 1}, 3000
	long.Edges = append(long.Edges, api.Edge{From: 1, To: 1, Marks: 1})
	long.Edges[0].To = 0
	expectSome(t, long, true)
}

// P6.2 and P6.3: the largest automata
func TestLiveLarge(t *testing.T) {
	for _, kind := range kinds {
		marks := 40
		if kind == api.Buchi || kind == api.CoBuchi {
			marks = 1
		}
		a := ring(kind, marks, 6, 3000)
		all := 1<<marks - 1
		accepted := []int{all, all, 0, 2, 1, 1}[kind]
		rejected := []int{0, all - 1, all, 3, 2, 3}[kind]
		for len(a.Edges) < api.MaxEdges {
			i := len(a.Edges)
			a.Edges = append(a.Edges, api.Edge{From: i % 3000, To: i * 7 % 3000, Care: 63, Bits: i % 64})
		}
		for i := range a.Edges {
			a.Edges[i].Marks = rejected
		}
		list, _ := member.Live(a)
		if slices.Contains(list, true) {
			t.Errorf("kind %d: some states are live", kind)
		}
		expectSome(t, a, false)
		a.Edges[2999] = api.Edge{From: 2999, To: 2999, Marks: accepted}
		list, _ = member.Live(a)
		if slices.Contains(list, false) {
			t.Errorf("kind %d: some states are not live", kind)
		}
		expectSome(t, a, true)
	}
}

// P6.6 and P6.9: all pairs of kinds
func TestWithin(t *testing.T) {
	g := generator(6)
	words := smallWords(1, 1, 3)
	for _, kind := range kinds {
		for _, other := range kinds {
			found := map[bool]int{}
			for range 150 {
				a := g.automaton(kind, 1, 1+g.below(4), 4+g.below(6), 4)
				b := g.whole(other, 1, 1+g.below(3), 4)
				want := within(a, b)
				found[want]++
				is, e := member.Within(a, b)
				if is != want || e != api.OK {
					t.Fatalf("Within(%v, %v) = %t, %d", a, b, is, e)
				}
				for _, w := range words {
					in, _ := member.Has(a, w)
					out, _ := member.Has(b, w)
					if is && in && !out {
						t.Fatalf("Within(%v, %v), but not %v", a, b, w)
					}
				}
			}
			if found[true] < 5 || found[false] < 5 {
				t.Errorf("kinds %d and %d: %v", kind, other, found)
			}
		}
	}
}

// P6.6: many marks on both sides, and edges with several letters
func TestWithinMarks(t *testing.T) {
	g := generator(7)
	found := map[bool]int{}
	for i := range 1200 {
		a := g.automaton(kinds[i%6], 2, 1+g.below(3), 4+g.below(6), 6)
		b := g.whole(kinds[i/6%6], 2, 1+g.below(3), 6)
		want := within(a, b)
		found[want]++
		if is, e := member.Within(a, b); is != want || e != api.OK {
			t.Fatalf("Within(%v, %v) = %t, %d", a, b, is, e)
		}
	}
	if found[true] < 100 || found[false] < 100 {
		t.Errorf("%v", found)
	}
}

// P6.6: single cases, and the largest automata
func TestWithinCases(t *testing.T) {
	all := ring(api.General, 0, 1, 1)
	nothing := ring(api.Parity, 0, 1, 1)
	seldom := changed(func(a *api.Automaton) { a.Kind = api.CoBuchi })
	always := changed(func(a *api.Automaton) { a.Edges = a.Edges[:1] })
	large := ring(api.General, 40, 1, 3000)
	large.Edges[5].Marks = 1<<40 - 1
	several := ring(api.General, 40, 1, 3000)
	for m := range 40 {
		several.Edges[m*70].Marks = 1 << m
	}
	for i, c := range []struct {
		a, b api.Automaton
		want bool
	}{
		{again(), again(), true}, {again(), seldom, false}, {seldom, again(), false}, {again(), all, true}, {all, again(), false}, {nothing, again(), true}, {again(), nothing, false},
		{always, again(), true}, {always, seldom, false}, {api.Automaton{Props: 1, Marks: 1}, nothing, true}, {all, all, true}, {nothing, nothing, true}, {all, nothing, false},
		{large, all, true}, {all, large, true}, {all, several, true}, {several, nothing, false}, {large, seldom, false}, {again(), several, true},
		{again(), ring(api.Streett, 40, 1, 3000), true}, {again(), ring(api.Rabin, 40, 1, 3000), false}, {again(), ring(api.Parity, 40, 1, 3000), false},
	} {
		if is, e := member.Within(c.a, c.b); is != c.want || e != api.OK {
			t.Errorf("%d: %t, %d", i, is, e)
		}
	}
	big, bigger := ring(api.General, 0, 1, 60), ring(api.General, 0, 1, 51)
	if is, e := member.Within(big, ring(api.General, 0, 1, 50)); !is || e != api.OK {
		t.Errorf("3000 pairs: %t, %d", is, e)
	}
	if is, e := member.Within(big, bigger); is != (e == api.OK) || e != api.OK && e != api.ErrFull {
		t.Errorf("3060 pairs: %t, %d", is, e)
	}
}

// P6.2, P6.3 and P6.6: invalid arguments
func TestErrors(t *testing.T) {
	for _, a := range invalid() {
		if list, e := member.Live(a); len(list) > 0 || e != api.ErrArg {
			t.Errorf("Live(%.300v) = %v, %d", a, list, e)
		}
		if is, e := member.Empty(a); is || e != api.ErrArg {
			t.Errorf("Empty(%.300v) = %t, %d", a, is, e)
		}
		if w, e := member.Some(a); len(w.Loop) > 0 || e != api.ErrArg {
			t.Errorf("Some(%.300v) = %v, %d", a, w, e)
		}
		for _, b := range append(invalid(), again(), ring(api.General, 0, 6, 2)) {
			if is, e := member.Within(a, b); is || e != api.ErrArg {
				t.Errorf("Within(%.300v, %.300v) = %t, %d", a, b, is, e)
			}
			if is, e := member.Within(b, a); is || e != api.ErrArg {
				t.Errorf("Within(%.300v, %.300v) = %t, %d", b, a, is, e)
			}
		}
	}
	partial := changed(func(a *api.Automaton) { a.Edges = a.Edges[:1] })
	several := changed(func(a *api.Automaton) { a.Edges = append(a.Edges, api.Edge{}) })
	noStart := changed(func(a *api.Automaton) { a.Start = nil })
	other := ring(api.General, 0, 2, 1)
	for _, b := range []api.Automaton{again(), partial, several, noStart} {
		if is, e := member.Within(b, other); is || e != api.ErrDim {
			t.Errorf("Within(%v, other) = %t, %d", b, is, e)
		}
		if is, e := member.Within(other, b); is || e != api.ErrDim {
			t.Errorf("Within(other, %v) = %t, %d", b, is, e)
		}
	}
	for _, b := range []api.Automaton{partial, several, noStart} {
		if is, e := member.Within(again(), b); is || e != api.ErrKind {
			t.Errorf("Within(again, %v) = %t, %d", b, is, e)
		}
		if is, e := member.Within(b, again()); !is || e != api.OK {
			t.Errorf("Within(%v, again) = %t, %d", b, is, e)
		}
	}
}

// Rule 6: no function changes its arguments, and results are memory of their own.
func TestEffects(t *testing.T) {
	for i, kind := range kinds {
		g := generator(10 + i)
		a, b := g.automaton(kind, 1, 3, 12, 4), g.whole(kind, 1, 3, 4)
		w, v := api.Word{Stem: []int{0, 1, 1}, Loop: []int{0, 1, 0, 1}}, api.Word{Stem: []int{0, 1, 1}, Loop: []int{0, 1, 0, 1}}
		was, other := copied(a), copied(b)
		member.Has(a, w)
		member.Live(a)
		member.Empty(a)
		some, _ := member.Some(b)
		stem, loop, _ := member.Run(b, w)
		saved := slices.Clone(loop)
		stem = append(stem, 7)
		if !slices.Equal(loop, saved) {
			t.Error("stem and loop share memory")
		}
		member.Check(b, w, stem[:len(stem)-1], loop)
		member.Within(a, b)
		if !identical(a, was) || !identical(b, other) || !slices.Equal(w.Stem, v.Stem) || !slices.Equal(w.Loop, v.Loop) || !slices.Equal(loop, saved) {
			t.Errorf("kind %d: %v, %v, %v, %v", kind, a, b, w, loop)
		}
		if again, _ := member.Some(b); !slices.Equal(again.Stem, some.Stem) || !slices.Equal(again.Loop, some.Loop) {
			t.Errorf("kind %d: Some is not the same again", kind)
		}
	}
}
