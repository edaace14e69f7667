package zielonka_test

import (
	"math"
	"slices"
	"testing"

	"lodesman/api"
	"lodesman/game"
	"lodesman/zielonka"
)

// The examples of the chapter, and a game without positions
func TestExamples(t *testing.T) {
	for _, c := range []struct {
		g              api.Game
		winner, choice []int
	}{
		{first(), []int{0, 0}, []int{1, -1}},
		{api.Game{Owner: []int{1}, Priority: []int{3}, Next: [][]int{{0}}}, []int{1}, []int{0}},
		{api.Game{Owner: []int{0}, Priority: []int{3}, Next: [][]int{{0}}}, []int{1}, []int{-1}},
		{api.Game{Owner: []int{0}, Priority: []int{60}, Next: [][]int{{0}}}, []int{0}, []int{0}},
		{api.Game{}, nil, nil}, {api.Game{Owner: []int{}, Priority: []int{}, Next: [][]int{}}, nil, nil},
	} {
		r, e := zielonka.Solve(c.g)
		if e != api.OK || !slices.Equal(r.Winner, c.winner) || !slices.Equal(r.Choice, c.choice) {
			t.Errorf("Solve(%v) = %v, %d", c.g, r, e)
		}
	}
}

// P13.1: the winners are those of all choices; the arguments stay as they are, and equal ones yield equal results
func TestSolve(t *testing.T) {
	g := generator(1)
	won := [2]int{}
	for range 3000 {
		x := g.game(1+g.below(7), 1+g.below(7), 1+g.below(3))
		before := copied(x)
		r := solved(t, x)
		if want := winners(t, x); !slices.Equal(r.Winner, want) || !identical(x, before) {
			t.Fatalf("Solve(%v) = %v, want %v", before, r, want)
		}
		if again := solved(t, before); !slices.Equal(r.Winner, again.Winner) || !slices.Equal(r.Choice, again.Choice) {
			t.Fatalf("Solve(%v) = %v, and %v", x, r, again)
		}
		for _, p := range r.Winner {
			won[p]++
		}
	}
	if won[0] < 2000 || won[1] < 2000 {
		t.Errorf("%v", won)
	}
}

// P13.1 and P13.5: games that are larger; in the dual the other player wins each position
func TestDeterminacy(t *testing.T) {
	g := generator(2)
	won := [2]int{}
	for range 1500 {
		x := g.game(1+g.below(60), 1+g.below(60), 1+g.below(4))
		d, e := game.Dual(x)
		if e != api.OK {
			t.Fatal(e)
		}
		r, s := solved(t, x), solved(t, d)
		for v, p := range r.Winner {
			if s.Winner[v] != 1-p {
				t.Fatalf("%v: %v, dual: %v", x, r, s)
			}
			won[p]++
		}
	}
	if won[0] < 5000 || won[1] < 5000 {
		t.Errorf("%v", won)
	}
}

// P13.1: as many positions and successors as there may be
func TestSolveLarge(t *testing.T) {
	g := generator(3)
	for _, c := range [][2]int{{61, 2}, {61, 3}, {10, 2}, {3, 2}, {60, 64}} {
		solved(t, g.game(api.MaxPositions, c[0], c[1]))
	}
	ring := api.Game{Owner: make([]int, api.MaxPositions), Priority: make([]int, api.MaxPositions)}
	for v := range api.MaxPositions {
		ring.Next = append(ring.Next, []int{(v + 1) % api.MaxPositions})
	}
	if r := solved(t, ring); slices.Contains(r.Winner, 1) {
		t.Errorf("%s", brief(r))
	}
	ring.Priority[777] = 1
	if r := solved(t, ring); slices.Contains(r.Winner, 0) {
		t.Errorf("%s", brief(r))
	}
}

// P13.1: never ErrFull with two priorities, though most of the positions are won one by one
func TestTwoPriorities(t *testing.T) {
	x := stairs(api.MaxPositions / 2)
	if r := solved(t, x); slices.Contains(r.Winner, 0) {
		t.Errorf("%s", brief(r))
	}
	d, _ := game.Dual(stairs(2000))
	if r := solved(t, d); slices.Contains(r.Winner, 1) {
		t.Errorf("%s", brief(r))
	}
	g := generator(4)
	for range 300 {
		x := g.game(1+g.below(300), 2, 3)
		low, step := g.below(60), 1+g.below(20)
		for v, q := range x.Priority {
			x.Priority[v] = min(low+q*step, api.MaxPriority)
		}
		solved(t, x)
	}
}

// P13.1: never ErrFull with 16 positions
func TestSixteen(t *testing.T) {
	g := generator(5)
	for range 3000 {
		solved(t, g.game(16, 1+g.below(61), 1+g.below(4)))
	}
	x := tower(6)
	x, _, _ = game.Sub(x, append(slices.Repeat([]bool{true}, 16), false, false))
	solved(t, x)
}

// P13.1: many games are visited, and too many
func TestLimit(t *testing.T) {
	for levels := range 24 {
		solved(t, tower(levels))
	}
	for _, levels := range []int{24, 26, 30, 61} {
		if r, e := zielonka.Solve(tower(levels)); e != api.ErrFull || !zero(r) {
			t.Errorf("%d levels: %v, %d", levels, r, e)
		}
		if p, e := zielonka.Wins(tower(levels), 5); e != api.ErrFull || p != 0 {
			t.Errorf("%d levels: %d, %d", levels, p, e)
		}
	}
	// what has been counted before does not count
	solved(t, tower(23))
}

// P13.2: each position of games, and the errors in their order
func TestWins(t *testing.T) {
	g := generator(6)
	for range 500 {
		x := g.game(1+g.below(12), 8, 3)
		before := copied(x)
		r := solved(t, x)
		for v := range x.Next {
			if p, e := zielonka.Wins(x, v); p != r.Winner[v] || e != api.OK {
				t.Fatalf("Wins(%v, %d) = %d, %d, want %v", x, v, p, e, r.Winner)
			}
		}
		if !identical(x, before) {
			t.Fatalf("%v, %v", x, before)
		}
	}
	for _, v := range []int{-1, 2, math.MinInt, math.MaxInt} {
		if p, e := zielonka.Wins(first(), v); p != 0 || e != api.ErrRange {
			t.Errorf("Wins(%d) = %d, %d", v, p, e)
		}
	}
	if p, e := zielonka.Wins(api.Game{}, 0); p != 0 || e != api.ErrRange {
		t.Errorf("Wins = %d, %d", p, e)
	}
	if p, e := zielonka.Wins(tower(61), 183); p != 0 || e != api.ErrRange {
		t.Errorf("Wins = %d, %d", p, e)
	}
}

// All functions: games that are not valid, before every other error
func TestInvalid(t *testing.T) {
	for _, g := range invalid() {
		r, e := zielonka.Solve(g)
		s, f := zielonka.Part(g, []bool{true, false, true})
		if e != api.ErrArg || f != api.ErrArg || !zero(r) || !zero(s) {
			t.Errorf("%s: %d, %d", brief(g), e, f)
		}
		p, e := zielonka.Wins(g, -1)
		l, f := zielonka.Trap(g, 2, []int{-1})
		if e != api.ErrArg || f != api.ErrArg || p != 0 || len(l) != 0 {
			t.Errorf("%s: %d, %d", brief(g), e, f)
		}
	}
}

// P13.1 and P13.3: the results share no memory
func TestMemory(t *testing.T) {
	x, keep := tower(4), slices.Repeat([]bool{true}, 12)
	want := solved(t, x)
	for range 2 {
		r, _ := zielonka.Solve(x)
		s, _ := zielonka.Part(x, keep)
		if !slices.Equal(r.Winner, want.Winner) || !slices.Equal(r.Choice, want.Choice) || !slices.Equal(s.Winner, want.Winner) || !slices.Equal(s.Choice, want.Choice) || !identical(x, tower(4)) || slices.Contains(keep, false) {
			t.Fatalf("%v, %v, want %v", r, s, want)
		}
		for v := range r.Winner {
			r.Winner[v] = 7
		}
		if !slices.Equal(r.Choice, want.Choice) {
			t.Fatalf("%v", r)
		}
		for v := range r.Choice {
			r.Choice[v], s.Winner[v], s.Choice[v] = 7, 8, 9
		}
	}
}
