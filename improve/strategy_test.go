package improve_test

import (
	"math"
	"slices"
	"testing"

	"lodesman/api"
	"lodesman/improve"
)

// The examples of the chapter
func TestExamples(t *testing.T) {
	x := first()
	if w, e := improve.Wins(x, 0, []int{0, -1}); e != api.OK || !slices.Equal(w, []bool{false, false}) {
		t.Errorf("%v, %d", w, e)
	}
	l, more, e := improve.Better(x, []int{0, -1})
	if e != api.OK || !more || !slices.Equal(l, []int{1, -1}) {
		t.Errorf("%v, %t, %d", l, more, e)
	}
	if w, e := improve.Wins(x, 0, l); e != api.OK || !slices.Equal(w, []bool{true, true}) {
		t.Errorf("%v, %d", w, e)
	}
	stem, loop, e := improve.Break(x, 0, []int{0, -1}, 1)
	if e != api.OK || !slices.Equal(stem, []int{1}) || !slices.Equal(loop, []int{0}) {
		t.Errorf("%v, %v, %d", stem, loop, e)
	}
}

// P15.1 and P15.7: all strategies of small games against all of the other player; not both win from a position
func TestWins(t *testing.T) {
	g := generator(1)
	seen := map[bool]int{}
	for range 3000 {
		x := g.game(1+g.below(6), 1+g.below(7), 1+g.below(3))
		before := copied(x)
		var any [2][]bool
		for p := range 2 {
			any[p] = make([]bool, len(x.Next))
			for choice := range strategies(x, p) {
				saved := slices.Clone(choice)
				is, e := improve.Wins(x, p, choice)
				if want := wins(t, x, p, choice); e != api.OK || !slices.Equal(is, want) || !slices.Equal(choice, saved) || !identical(x, before) {
					t.Fatalf("Wins(%v, %d, %v) = %v, %d, want %v", before, p, saved, is, e, want)
				}
				for v, good := range is {
					any[p][v] = any[p][v] || good
					seen[good]++
				}
			}
		}
		for v := range x.Next {
			if any[0][v] == any[1][v] {
				t.Fatalf("%v: %v", x, any)
			}
		}
	}
	if seen[true] < 5000 || seen[false] < 5000 {
		t.Errorf("%v", seen)
	}
}

// P15.1: circles that have to be found below other priorities, and as many positions as there may be
func TestWinsLarge(t *testing.T) {
	all := func(is bool) []bool { return slices.Repeat([]bool{is}, api.MaxPositions) }
	other := func(p int) func(int) int { return func(int) int { return 1 - p } }
	for p := range 2 {
		none := slices.Repeat([]int{-1}, api.MaxPositions)
		for _, c := range []struct {
			priority func(v int) int
			want     bool
		}{
			{func(int) int { return 58 + p }, true}, {func(int) int { return 59 + p }, false}, {func(v int) int { return 59 + p - v%2 }, false}, {func(v int) int { return 2*(v%30) + p }, true}, {func(v int) int { return v % 61 }, false},
		} {
			if is, e := improve.Wins(crowd(other(p), c.priority), p, none); e != api.OK || !slices.Equal(is, all(c.want)) {
				t.Errorf("player %d: %s, %d", p, brief(is), e)
			}
		}
		// only the circle of 0 and 1 is won by the other player, and it is below all others
		x := ladder(other(p), func(v int) int { return 2*min(v, 29) + p })
		x.Next[0], x.Next[api.MaxPositions-1] = []int{1}, []int{api.MaxPositions - 2}
		x.Priority[0], x.Priority[1] = 1-p, 1-p
		if is, e := improve.Wins(x, p, none); e != api.OK || !slices.Equal(is, all(false)) {
			t.Errorf("player %d: %s, %d", p, brief(is), e)
		}
		stem, loop, e := improve.Break(x, p, none, api.MaxPositions-1)
		if e != api.OK {
			t.Fatal(e)
		}
		expectLoss(t, x, p, none, api.MaxPositions-1, stem, loop)
	}
}

// P15.2: from each position there is such a play, or the strategy wins; equal arguments yield equal results
func TestBreak(t *testing.T) {
	g := generator(2)
	seen := map[api.Errno]int{}
	longest := 0
	for range 2000 {
		x := g.game(1+g.below(25), 1+g.below(9), 1+g.below(3))
		p := g.below(2)
		choice := g.strategy(x, p)
		before, saved := copied(x), slices.Clone(choice)
		is, _ := improve.Wins(x, p, choice)
		for v := range x.Next {
			stem, loop, e := improve.Break(x, p, choice, v)
			again, round, f := improve.Break(before, p, saved, v)
			if e != f || !slices.Equal(stem, again) || !slices.Equal(loop, round) || !slices.Equal(choice, saved) || !identical(x, before) {
				t.Fatalf("Break(%v, %d, %v, %d) = %v, %v, %d, and %v, %v, %d", before, p, saved, v, stem, loop, e, again, round, f)
			}
			seen[e]++
			if e == api.ErrNone && is[v] && len(stem)+len(loop) == 0 {
				continue
			}
			if e != api.OK || is[v] {
				t.Fatalf("Break(%v, %d, %v, %d) = %v, %v, %d", x, p, choice, v, stem, loop, e)
			}
			expectLoss(t, x, p, choice, v, stem, loop)
			longest = max(longest, len(stem)*len(loop))
		}
	}
	if seen[api.OK] < 5000 || seen[api.ErrNone] < 2000 || longest < 20 {
		t.Errorf("%v, %d", seen, longest)
	}
}

// P15.2: long ways and long circles, and circles whose positions would make detours possible
func TestBreakLarge(t *testing.T) {
	x := ring(api.MaxPositions)
	x.Priority[19999], x.Next[19999] = 59, []int{10000}
	choice, _ := improve.First(x, 0)
	stem, loop, e := improve.Break(x, 0, choice, 0)
	if e != api.OK || len(loop) != 10000 {
		t.Errorf("%d, %d, %d", len(stem), len(loop), e)
	}
	expectLoss(t, x, 0, choice, 0, stem, loop)
	x.Priority[19999] = 60
	if stem, loop, e = improve.Break(x, 0, choice, 0); e != api.ErrNone || len(stem)+len(loop) != 0 {
		t.Errorf("%d, %d, %d", len(stem), len(loop), e)
	}
	x = crowd(func(v int) int { return v % 2 }, func(v int) int { return v % 61 })
	choice, _ = improve.First(x, 1)
	for v := 0; v < api.MaxPositions; v += 1999 {
		if stem, loop, e = improve.Break(x, 1, choice, v); e != api.OK {
			t.Fatal(e)
		}
		expectLoss(t, x, 1, choice, v, stem, loop)
	}
}

// P15.1 and P15.2: the errors in their order, lists that are no full strategies, and no positions
func TestStrategyErrors(t *testing.T) {
	x := first()
	for _, c := range []struct {
		g      api.Game
		player int
		choice []int
		want   api.Errno
	}{
		{x, 0, []int{1, -1}, api.OK}, {x, 1, []int{-1, 1}, api.OK}, {api.Game{}, 0, nil, api.OK}, {api.Game{}, 1, []int{}, api.OK},
		{x, 2, nil, api.ErrRange}, {x, -1, []int{1, -1}, api.ErrRange}, {x, math.MaxInt, []int{1, -1}, api.ErrRange}, {api.Game{}, 2, nil, api.ErrRange},
		{x, 0, nil, api.ErrForm}, {x, 0, []int{1}, api.ErrForm}, {x, 0, []int{1, -1, -1}, api.ErrForm}, {x, 0, []int{-1, -1}, api.ErrForm}, {x, 0, []int{2, -1}, api.ErrForm}, {x, 0, []int{1, 0}, api.ErrForm}, {x, 0, []int{1, -2}, api.ErrForm}, {x, 0, []int{math.MinInt, -1}, api.ErrForm}, {x, 0, make([]int, 1<<20), api.ErrForm},
		{x, 1, []int{1, -1}, api.ErrForm}, {x, 1, []int{0, 0}, api.ErrForm}, {x, 1, []int{-1, 2}, api.ErrForm}, {x, 1, []int{-1, -1}, api.ErrForm}, {api.Game{}, 0, []int{0}, api.ErrForm},
	} {
		is, e := improve.Wins(c.g, c.player, c.choice)
		if e != c.want || e != api.OK && len(is) != 0 || e == api.OK && len(is) != len(c.g.Next) {
			t.Errorf("Wins(%v, %d, %s) = %v, %d", c.g, c.player, brief(c.choice), is, e)
		}
		want := c.want
		if want == api.OK {
			want = api.ErrRange
		}
		for _, v := range []int{-1, 2, math.MinInt, math.MaxInt} {
			if stem, loop, e := improve.Break(c.g, c.player, c.choice, v); e != want || len(stem)+len(loop) != 0 {
				t.Errorf("Break(%v, %d, %s, %d) = %v, %v, %d", c.g, c.player, brief(c.choice), v, stem, loop, e)
			}
		}
		if c.player != 0 {
			continue
		}
		l, more, e := improve.Better(c.g, c.choice)
		if e != c.want || more || e == api.OK && !slices.Equal(l, c.choice) || e != api.OK && len(l) != 0 {
			t.Errorf("Better(%v, %s) = %v, %t, %d", c.g, brief(c.choice), l, more, e)
		}
	}
	if _, _, e := improve.Break(x, 0, []int{1, -1}, 0); e != api.ErrNone {
		t.Errorf("%d", e)
	}
}

// P15.5: the first successors, for both players
func TestFirst(t *testing.T) {
	g := generator(3)
	for range 500 {
		x := g.game(1+g.below(20), 3, 4)
		before := copied(x)
		for p := range 2 {
			l, e := improve.First(x, p)
			for v, next := range x.Next {
				if e != api.OK || len(l) != len(x.Next) || x.Owner[v] == p && l[v] != next[0] || x.Owner[v] != p && l[v] != -1 || !identical(x, before) {
					t.Fatalf("First(%v, %d) = %v, %d", x, p, l, e)
				}
			}
			l[0] = 77
			if !identical(x, before) {
				t.Fatalf("%v, %v", x, before)
			}
		}
	}
	for _, p := range []int{-1, 2, math.MinInt, math.MaxInt} {
		if l, e := improve.First(first(), p); e != api.ErrRange || len(l) != 0 {
			t.Errorf("First(%d) = %v, %d", p, l, e)
		}
		if l, e := improve.First(api.Game{}, p); e != api.ErrRange || len(l) != 0 {
			t.Errorf("First(%d) = %v, %d", p, l, e)
		}
	}
	if l, e := improve.First(api.Game{}, 1); e != api.OK || len(l) != 0 {
		t.Errorf("%v, %d", l, e)
	}
}
