package game_test

import (
	"slices"
	"testing"

	"lodesman/api"
	"lodesman/game"
)

// forced is, for each position, within how many moves p can force a play into the set, by the definition.
func forced(x api.Game, p int, to []bool) []int {
	steps := slices.Repeat([]int{-1}, len(to))
	for v, is := range to {
		if is {
			steps[v] = 0
		}
	}
	for n := range to {
		var found []int
		for v, next := range x.Next {
			in := 0
			for _, w := range next {
				if steps[w] >= 0 {
					in++
				}
			}
			if steps[v] < 0 && (in == len(next) || in > 0 && x.Owner[v] == p) {
				found = append(found, v)
			}
		}
		for _, v := range found {
			steps[v] = n + 1
		}
	}
	return steps
}

// chosen is what the chapter says of choices.
func chosen(x api.Game, p int, steps []int) []int {
	choice := slices.Repeat([]int{-1}, len(steps))
	for v, next := range x.Next {
		if x.Owner[v] != p || steps[v] <= 0 {
			continue
		}
		for _, w := range next {
			if steps[w] == steps[v]-1 {
				choice[v] = w
				break
			}
		}
	}
	return choice
}

// expectForced checks P12.8: how many moves are needed at most, and that the other player can stay outside.
func expectForced(t *testing.T, x api.Game, p int, steps, choice []int) {
	t.Helper()
	for v, next := range x.Next {
		mine := x.Owner[v] == p
		if mine && choice[v] >= 0 {
			next = []int{choice[v]}
		}
		below := func(w int) bool { return steps[w] >= 0 && steps[w] < steps[v] }
		outside := func(w int) bool { return steps[w] < 0 }
		switch {
		case steps[v] > 0:
			for _, w := range next {
				if !below(w) {
					t.Fatalf("%v for %d: %v, %v at %d", x, p, steps, choice, v)
				}
			}
		case steps[v] < 0 && mine:
			if slices.ContainsFunc(next, func(w int) bool { return !outside(w) }) {
				t.Fatalf("%v for %d: %v, %v at %d", x, p, steps, choice, v)
			}
		case steps[v] < 0:
			if !slices.ContainsFunc(next, outside) {
				t.Fatalf("%v for %d: %v, %v at %d", x, p, steps, choice, v)
			}
		}
	}
}

// P12.2 and P12.8: any games and sets
func TestAttract(t *testing.T) {
	g := generator(7)
	far, out := 0, 0
	for range 3000 {
		x := g.game(1+g.below(14), 5, 4)
		before := copied(x)
		p := g.below(2)
		to := g.set(len(x.Next), 1+g.below(8))
		set := slices.Clone(to)
		steps, choice, e := game.Attract(x, p, to)
		want := forced(x, p, to)
		if e != api.OK || !slices.Equal(steps, want) || !slices.Equal(choice, chosen(x, p, want)) || !identical(x, before) || !slices.Equal(to, set) {
			t.Fatalf("Attract(%v, %d, %v) = %v, %v, %d, want %v", x, p, to, steps, choice, e, want)
		}
		expectForced(t, x, p, steps, choice)
		if slices.Max(steps) > 3 {
			far++
		}
		if slices.Contains(steps, -1) {
			out++
		}
	}
	if far < 100 || out < 300 {
		t.Errorf("%d, %d", far, out)
	}
}

// P12.2: as many positions and successors as there may be
func TestAttractLarge(t *testing.T) {
	x := ring(api.MaxPositions)
	to := make([]bool, api.MaxPositions)
	to[19999] = true
	steps, choice, e := game.Attract(x, 0, to)
	other, none, f := game.Attract(x, 1, to)
	if e != api.OK || f != api.OK || !slices.Equal(steps, other) || choice[19999] != -1 {
		t.Fatalf("%d, %d", e, f)
	}
	for v := range 19999 {
		if steps[v] != 19999-v || choice[v] != v+1 || none[v] != -1 {
			t.Fatalf("%d: %d, %d, %d", v, steps[v], choice[v], none[v])
		}
	}
	x = crowd(func(v int) int { return v % 2 }, func(v int) int { return 0 })
	for v := range to {
		to[v] = v%3 == 0
	}
	for p := range 2 {
		steps, choice, e := game.Attract(x, p, to)
		if e != api.OK {
			t.Fatal(e)
		}
		expectForced(t, x, p, steps, choice)
	}
}

// P12.2: no positions, empty and full sets, and the errors in their order
func TestAttractCases(t *testing.T) {
	x := example()
	for _, c := range []struct {
		g             api.Game
		p             int
		to            []bool
		steps, choice []int
		want          api.Errno
	}{
		{api.Game{}, 0, nil, nil, nil, api.OK}, {api.Game{}, 1, []bool{}, nil, nil, api.OK},
		{x, 0, []bool{false, false}, []int{-1, -1}, []int{-1, -1}, api.OK}, {x, 1, []bool{true, true}, []int{0, 0}, []int{-1, -1}, api.OK},
		{x, 0, []bool{false, true}, []int{1, 0}, []int{1, -1}, api.OK}, {x, 1, []bool{false, true}, []int{-1, 0}, []int{-1, -1}, api.OK}, {x, 1, []bool{true, false}, []int{0, 1}, []int{-1, 0}, api.OK}, {x, 0, []bool{true, false}, []int{0, 1}, []int{-1, -1}, api.OK},
		{x, 2, []bool{true, false}, nil, nil, api.ErrRange}, {x, -1, nil, nil, nil, api.ErrRange}, {x, 0, nil, nil, nil, api.ErrDim}, {x, 1, []bool{true}, nil, nil, api.ErrDim}, {x, 0, make([]bool, 3), nil, nil, api.ErrDim}, {api.Game{}, 0, []bool{true}, nil, nil, api.ErrDim},
	} {
		steps, choice, e := game.Attract(c.g, c.p, c.to)
		if e != c.want || !slices.Equal(steps, c.steps) || !slices.Equal(choice, c.choice) {
			t.Errorf("Attract(%v, %d, %v) = %v, %v, %d", c.g, c.p, c.to, steps, choice, e)
		}
	}
}

// P12.2: the results share no memory
func TestAttractMemory(t *testing.T) {
	x, to := example(), []bool{false, true}
	steps, choice, _ := game.Attract(x, 0, to)
	steps[0], steps[1], choice[0], choice[1] = 9, 9, 9, 9
	steps, choice, _ = game.Attract(x, 0, to)
	if !slices.Equal(steps, []int{1, 0}) || !slices.Equal(choice, []int{1, -1}) || !identical(x, example()) {
		t.Errorf("%v, %v", steps, choice)
	}
}
