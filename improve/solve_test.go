package improve_test

import (
	"slices"
	"testing"

	"lodesman/api"
	"lodesman/game"
	"lodesman/improve"
	"lodesman/zielonka"
)

// best is what repeated calls of Better end with. It checks that none loses a position, that each one gains some, and that there are not too many.
func best(t *testing.T, x api.Game, choice []int) []bool {
	t.Helper()
	won, e := improve.Wins(x, 0, choice)
	for calls := 1; ; calls++ {
		saved := slices.Clone(choice)
		l, more, f := improve.Better(x, choice)
		if e != api.OK || f != api.OK || calls > len(x.Next)+1 || !slices.Equal(choice, saved) || !more && !slices.Equal(l, choice) {
			t.Fatalf("%s: Better(%s) = %s, %t, %d in call %d; %d", brief(x), brief(saved), brief(l), more, f, calls, e)
		}
		if !more {
			return won
		}
		var is []bool
		is, e = improve.Wins(x, 0, l)
		if !covers(is, won) || slices.Equal(is, won) {
			t.Fatalf("%s: Better(%s) = %s, which wins %s, before %s", brief(x), brief(choice), brief(l), brief(is), brief(won))
		}
		choice, won = l, is
	}
}

// P15.3 and P15.6: from all strategies of small games to one that wins all that player 0 wins
func TestBetter(t *testing.T) {
	g := generator(11)
	gained, kept := 0, 0
	for range 3000 {
		x := g.game(1+g.below(6), 1+g.below(7), 1+g.below(3))
		before := copied(x)
		want := winners(t, x)
		for choice := range strategies(x, 0) {
			is, _ := improve.Wins(x, 0, choice)
			won := best(t, x, choice)
			for v, w := range want {
				if won[v] != (w == 0) || !identical(x, before) {
					t.Fatalf("%v from %v: %v, want %v", before, choice, won, want)
				}
			}
			if slices.Equal(is, won) {
				kept++
			} else {
				gained++
			}
		}
	}
	if gained < 500 || kept < 500 {
		t.Errorf("%d, %d", gained, kept)
	}
}

// P15.3: what a strategy wins is kept where several choices win
func TestBetterKeeps(t *testing.T) {
	g := generator(12)
	partly := 0
	for range 1500 {
		x := g.game(1+g.below(40), 1+g.below(10), 1+g.below(4))
		z, e := zielonka.Solve(x)
		if e != api.OK {
			t.Fatal(e)
		}
		for range 3 {
			choice := g.strategy(x, 0)
			is, _ := improve.Wins(x, 0, choice)
			won := best(t, x, choice)
			for v, w := range z.Winner {
				if won[v] != (w == 0) {
					t.Fatalf("%v from %v: %v, want %v", x, choice, won, z)
				}
			}
			if slices.Contains(is, true) && !slices.Equal(is, won) {
				partly++
			}
		}
	}
	if partly < 300 {
		t.Errorf("%d", partly)
	}
}

// P15.3: as many positions as there may be, won one after the other
func TestBetterLarge(t *testing.T) {
	for _, x := range []api.Game{rooms(api.MaxPositions / 4), crowd(func(v int) int { return v / 3 % 2 }, func(v int) int { return v * v % 61 }), ladder(func(v int) int { return v % 2 }, func(v int) int { return v % 61 })} {
		choice, _ := improve.First(x, 0)
		best(t, x, choice)
	}
}

// P15.4: the examples of layer 13, and a game without positions
func TestSolveExamples(t *testing.T) {
	for _, c := range []struct {
		g              api.Game
		winner, choice []int
	}{
		{first(), []int{0, 0}, []int{1, -1}},
		{api.Game{Owner: []int{1}, Priority: []int{3}, Next: [][]int{{0}}}, []int{1}, []int{0}},
		{api.Game{Owner: []int{0}, Priority: []int{3}, Next: [][]int{{0}}}, []int{1}, []int{-1}},
		{api.Game{Owner: []int{0}, Priority: []int{60}, Next: [][]int{{0}}}, []int{0}, []int{0}},
		{api.Game{Owner: []int{1}, Priority: []int{0}, Next: [][]int{{0}}}, []int{0}, []int{-1}},
		{api.Game{}, nil, nil}, {api.Game{Owner: []int{}, Priority: []int{}, Next: [][]int{}}, nil, nil},
	} {
		r, e := improve.Solve(c.g)
		if e != api.OK || !slices.Equal(r.Winner, c.winner) || !slices.Equal(r.Choice, c.choice) {
			t.Errorf("Solve(%v) = %v, %d", c.g, r, e)
		}
	}
}

// solved is what Solve returns, checked.
func solved(t *testing.T, x api.Game) api.Region {
	t.Helper()
	r, e := improve.Solve(x)
	if e != api.OK {
		t.Fatalf("Solve(%s): %d", brief(x), e)
	}
	expectSolution(t, x, r)
	return r
}

// P15.4 and P15.8: solutions, with the winners of layer 13; equal arguments yield equal results
func TestSolve(t *testing.T) {
	g := generator(13)
	won := [2]int{}
	for range 5000 {
		x := g.game(1+g.below(30), 1+g.below(12), 1+g.below(4))
		before := copied(x)
		r := solved(t, x)
		z, e := zielonka.Solve(x)
		if e != api.OK || !slices.Equal(r.Winner, z.Winner) || !identical(x, before) {
			t.Fatalf("Solve(%v) = %v, want %v, %d", before, r, z, e)
		}
		if again := solved(t, before); !slices.Equal(r.Winner, again.Winner) || !slices.Equal(r.Choice, again.Choice) {
			t.Fatalf("Solve(%v) = %v, and %v", x, r, again)
		}
		for _, w := range r.Winner {
			won[w]++
		}
	}
	if won[0] < 10000 || won[1] < 10000 {
		t.Errorf("%v", won)
	}
}

// P15.4: all strategies of small games
func TestSolveSmall(t *testing.T) {
	g := generator(14)
	for range 1500 {
		x := g.game(1+g.below(6), 1+g.below(8), 1+g.below(3))
		r := solved(t, x)
		if want := winners(t, x); !slices.Equal(r.Winner, want) {
			t.Fatalf("Solve(%v) = %v, want %v", x, r, want)
		}
	}
}

// P15.4: never ErrFull, also where the other solvers give up or positions are won one after the other
func TestNeverFull(t *testing.T) {
	for _, levels := range []int{1, 2, 7, 24, 40, 61} {
		x := tower(levels)
		r := solved(t, x)
		if z, e := zielonka.Solve(x); e == api.OK && !slices.Equal(r.Winner, z.Winner) {
			t.Errorf("%d: %v, want %v", levels, r, z)
		}
		if d, e := game.Dual(x); e == api.OK {
			expectDual(t, r, solved(t, d))
		}
	}
	x := rooms(api.MaxPositions / 4)
	r := solved(t, x)
	if lost := slices.Index(r.Winner, 1); lost != api.MaxPositions-1 {
		t.Errorf("%s", brief(r))
	}
	d, _ := game.Dual(x)
	expectDual(t, r, solved(t, d))
	// to go round a long circle is worth it because of one position
	for want := range 2 {
		x = ring(api.MaxPositions)
		for v := range x.Next {
			x.Priority[v] = 1
			if next := x.Next[v][0]; next > v {
				x.Next[v] = []int{v, next}
			}
		}
		x.Priority[9999] = 2 + want
		if r := solved(t, x); slices.Contains(r.Winner, 1-want) {
			t.Errorf("%s", brief(r))
		}
	}
}

// expectDual checks that the other player wins each position.
func expectDual(t *testing.T, r, s api.Region) {
	t.Helper()
	for v, w := range r.Winner {
		if s.Winner[v] != 1-w {
			t.Fatalf("%d: %s, dual: %s", v, brief(r), brief(s))
		}
	}
}

// P15.4: as many positions and successors as there may be
func TestSolveLarge(t *testing.T) {
	g := generator(15)
	for _, c := range [][2]int{{61, 2}, {61, 3}, {10, 2}, {3, 2}, {2, 2}, {60, 64}, {4, 64}} {
		solved(t, g.game(api.MaxPositions, c[0], c[1]))
	}
	for _, x := range []api.Game{
		crowd(func(v int) int { return v % 2 }, func(v int) int { return v % 61 }),
		ladder(func(v int) int { return v % 2 }, func(v int) int { return v % 61 }),
		ladder(func(v int) int { return v * v % 7 % 2 }, func(v int) int { return v * v % 59 }),
	} {
		solved(t, x)
	}
	x := ring(api.MaxPositions)
	for v := range x.Next {
		x.Owner[v], x.Priority[v] = v%2, v%3
	}
	for k, want := range []int{0, 1, 0} {
		x.Priority[77*k] = 58 + k
		if k == 0 {
			x.Priority[0] = 2
		}
		if r := solved(t, x); slices.Contains(r.Winner, 1-want) {
			t.Errorf("%d: %s", k, brief(r))
		}
	}
}

// All functions: games that are not valid, before every other error
func TestInvalid(t *testing.T) {
	for _, g := range invalid() {
		is, e := improve.Wins(g, 2, nil)
		stem, loop, f := improve.Break(g, 3, []int{7}, -1)
		if e != api.ErrArg || f != api.ErrArg || len(is)+len(stem)+len(loop) != 0 {
			t.Errorf("%s: %d, %d", brief(g), e, f)
		}
		l, more, e := improve.Better(g, nil)
		r, f := improve.Solve(g)
		if e != api.ErrArg || f != api.ErrArg || more || len(l)+len(r.Winner)+len(r.Choice) != 0 {
			t.Errorf("%s: %d, %d", brief(g), e, f)
		}
		if l, e := improve.First(g, 2); e != api.ErrArg || len(l) != 0 {
			t.Errorf("%s: %v, %d", brief(g), l, e)
		}
	}
}

// All functions: the results share no memory
func TestMemory(t *testing.T) {
	x := rooms(5)
	before := copied(x)
	want, choice := solved(t, x), []int(nil)
	for range 2 {
		r := solved(t, x)
		if !slices.Equal(r.Winner, want.Winner) || !slices.Equal(r.Choice, want.Choice) {
			t.Fatalf("%v, want %v", r, want)
		}
		choice, _ = improve.First(x, 0)
		l, more, _ := improve.Better(x, choice)
		same, still, _ := improve.Better(x, l)
		if !more || still || !slices.Equal(same, l) {
			t.Fatalf("%v, %v", l, same)
		}
		for v := range r.Winner {
			r.Winner[v] = 7
		}
		if !slices.Equal(r.Choice, want.Choice) {
			t.Fatalf("%v", r)
		}
		stem, loop, _ := improve.Break(x, 0, choice, 0)
		if stem = append(stem, 9); len(loop) != 1 || loop[0] != 3 {
			t.Fatalf("%v, %v", stem, loop)
		}
		saved := slices.Clone(l)
		for v := range same {
			r.Choice[v], same[v] = 8, 9
		}
		for i := range loop {
			loop[i] = 9
		}
		if !slices.Equal(l, saved) || !identical(x, before) {
			t.Fatalf("%v, %v, %v", l, saved, x)
		}
		for v := range l {
			l[v] = 9
		}
	}
	if again, _ := improve.First(x, 0); !slices.Equal(choice, again) {
		t.Errorf("%v, %v", choice, again)
	}
}
