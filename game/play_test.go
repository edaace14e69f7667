package game_test

import (
	"slices"
	"testing"

	"lodesman/api"
	"lodesman/game"
)

// The example of the chapter, and P12.3
func TestExample(t *testing.T) {
	stem, loop, winner, e := game.Play(example(), []int{1, 0}, 0)
	if len(stem) != 0 || !slices.Equal(loop, []int{0, 1}) || winner != 0 || e != api.OK {
		t.Errorf("%v, %v, %d, %d", stem, loop, winner, e)
	}
	stem, loop, winner, e = game.Play(example(), []int{0, 0}, 0)
	if len(stem) != 0 || !slices.Equal(loop, []int{0}) || winner != 1 || e != api.OK {
		t.Errorf("%v, %v, %d, %d", stem, loop, winner, e)
	}
	stem, loop, winner, e = game.Play(example(), []int{0, 0}, 1)
	if !slices.Equal(stem, []int{1}) || !slices.Equal(loop, []int{0}) || winner != 1 || e != api.OK {
		t.Errorf("%v, %v, %d, %d", stem, loop, winner, e)
	}
}

// P12.3: any choices, step by step
func TestPlay(t *testing.T) {
	g := generator(5)
	won := [2]int{}
	for range 2000 {
		x := g.game(1+g.below(12), 61, 4)
		before := copied(x)
		choices := g.choices(x)
		list := slices.Clone(choices)
		from := g.below(len(choices))
		stem, loop, winner, e := game.Play(x, choices, from)
		path := append(slices.Clone(stem), loop...)
		sorted := slices.Sorted(slices.Values(path))
		if e != api.OK || len(loop) == 0 || path[0] != from || choices[path[len(path)-1]] != loop[0] || len(slices.Compact(sorted)) != len(path) {
			t.Fatalf("Play(%v, %v, %d) = %v, %v, %d", x, choices, from, stem, loop, e)
		}
		most := 0
		for k, v := range path {
			if k > 0 && choices[path[k-1]] != v {
				t.Fatalf("Play(%v, %v, %d) = %v, %v", x, choices, from, stem, loop)
			}
			if k >= len(stem) {
				most = max(most, x.Priority[v])
			}
		}
		if winner != most%2 || !identical(x, before) || !slices.Equal(choices, list) {
			t.Fatalf("Play(%v, %v, %d) = %v, %v, %d", x, choices, from, stem, loop, winner)
		}
		won[winner]++
	}
	if won[0] < 500 || won[1] < 500 {
		t.Errorf("%v", won)
	}
}

// P12.3: as many positions as there may be
func TestPlayLong(t *testing.T) {
	x := ring(api.MaxPositions)
	x.Priority[19999] = 59
	choices := make([]int, api.MaxPositions)
	for v := range choices {
		choices[v] = x.Next[v][0]
	}
	stem, loop, winner, e := game.Play(x, choices, 5)
	if len(stem) != 0 || len(loop) != api.MaxPositions || loop[0] != 5 || winner != 1 || e != api.OK {
		t.Errorf("%d, %d, %d, %d", len(stem), len(loop), winner, e)
	}
	x.Next[19999], choices[19999] = []int{19999}, 19999
	stem, loop, winner, e = game.Play(x, choices, 0)
	if len(stem) != 19999 || !slices.Equal(loop, []int{19999}) || winner != 1 || e != api.OK {
		t.Errorf("%d, %d, %d, %d", len(stem), len(loop), winner, e)
	}
}

// P12.3: the errors in their order; choices of positions that are not visited count too
func TestPlayErrors(t *testing.T) {
	x := example()
	for _, c := range []struct {
		g       api.Game
		choices []int
		from    int
		want    api.Errno
	}{
		{x, nil, 0, api.ErrDim}, {x, []int{0}, 5, api.ErrDim}, {x, []int{0, 0, 0}, 0, api.ErrDim}, {api.Game{}, []int{0}, 0, api.ErrDim},
		{x, []int{0, 0}, 2, api.ErrRange}, {x, []int{0, 0}, -1, api.ErrRange}, {x, []int{0, 0}, 1 << 62, api.ErrRange}, {api.Game{}, nil, 0, api.ErrRange}, {api.Game{}, nil, -1, api.ErrRange},
		{x, []int{-1, 0}, 0, api.ErrRange}, {x, []int{2, 0}, 0, api.ErrRange}, {x, []int{0, 1}, 0, api.ErrRange}, {x, []int{0, -1}, 0, api.ErrRange}, {x, []int{1 << 62, 0}, 1, api.ErrRange},
	} {
		stem, loop, winner, e := game.Play(c.g, c.choices, c.from)
		if e != c.want || len(stem)+len(loop)+winner != 0 {
			t.Errorf("Play(%v, %v, %d) = %v, %v, %d, %d", c.g, c.choices, c.from, stem, loop, winner, e)
		}
	}
}

// P12.3: the results share no memory
func TestPlayMemory(t *testing.T) {
	x := ring(3)
	x.Next[2] = []int{1}
	choices := []int{1, 2, 1}
	stem, loop, _, _ := game.Play(x, choices, 0)
	if stem = append(stem, 9); !slices.Equal(loop, []int{1, 2}) {
		t.Errorf("%v, %v", stem, loop)
	}
	loop[0], stem[0] = 9, 9
	if stem, loop, _, _ = game.Play(x, choices, 0); !slices.Equal(stem, []int{0}) || !slices.Equal(loop, []int{1, 2}) || !slices.Equal(choices, []int{1, 2, 1}) {
		t.Errorf("%v, %v", stem, loop)
	}
}

// wins is, for a game in which one player alone has choices, from which positions it wins: a choice for each position is enough.
func wins(t *testing.T, x api.Game, p int) []bool {
	t.Helper()
	is := make([]bool, len(x.Next))
	place := make([]int, len(x.Next))
	for {
		choices := make([]int, len(place))
		for v, k := range place {
			choices[v] = x.Next[v][k]
		}
		for v := range place {
			_, _, winner, e := game.Play(x, choices, v)
			if e != api.OK {
				t.Fatal(e)
			}
			is[v] = is[v] || winner == p
		}
		v := 0
		for ; v < len(place); v++ {
			place[v]++
			if place[v] < len(x.Next[v]) {
				break
			}
			place[v] = 0
		}
		if v == len(place) {
			return is
		}
	}
}

// P12.6 and P12.10: all choices of the player
func TestOne(t *testing.T) {
	g := generator(6)
	seen := map[bool]int{}
	for range 2000 {
		p := g.below(2)
		x := g.alone(p, 1+g.below(7), 1+g.below(8), 3)
		before := copied(x)
		is, e := game.One(x, p)
		if want := wins(t, x, p); e != api.OK || !slices.Equal(is, want) || !identical(x, before) {
			t.Fatalf("One(%v, %d) = %v, %d, want %v", x, p, is, e, want)
		}
		for _, good := range is {
			seen[good]++
		}
	}
	if seen[true] < 1000 || seen[false] < 1000 {
		t.Errorf("%v", seen)
	}
}

// P12.6: large games, circles that have to be found below other priorities
func TestOneLarge(t *testing.T) {
	all := func(want bool) []bool { return slices.Repeat([]bool{want}, api.MaxPositions) }
	mine := func(int) int { return 1 }
	for _, c := range []struct {
		g    api.Game
		want bool
	}{
		{crowd(mine, func(int) int { return 60 }), false}, {crowd(mine, func(int) int { return 59 }), true}, {crowd(mine, func(v int) int { return 60 - v%2 }), true},
		{crowd(mine, func(v int) int { return 2 * (v % 31) }), false}, {crowd(mine, func(v int) int { return v % 61 }), true}, {ring(api.MaxPositions), false},
	} {
		if is, e := game.One(c.g, 1); e != api.OK || !slices.Equal(is, all(c.want)) {
			t.Errorf("%s: %s, %d, not %t", brief(c.g), brief(is), e, c.want)
		}
	}
	// A ladder: position v is left for v + 1 or v - 1, and only the circle of 0 and 1 has an odd top.
	ladder := ring(api.MaxPositions)
	for v := 1; v < api.MaxPositions-1; v++ {
		ladder.Next[v] = []int{v - 1, v + 1}
		ladder.Owner[v], ladder.Priority[v] = 1, 2*min(v, 30)
	}
	ladder.Next[api.MaxPositions-1] = []int{api.MaxPositions - 2}
	ladder.Priority[1] = 1
	if is, e := game.One(ladder, 1); e != api.OK || !slices.Equal(is, all(true)) {
		t.Errorf("%s, %d", brief(is), e)
	}
}

// P12.6: the errors in their order, and no positions
func TestOneErrors(t *testing.T) {
	x := example()
	for _, c := range []struct {
		g    api.Game
		p    int
		want api.Errno
	}{
		{x, 0, api.OK}, {x, 1, api.ErrKind}, {x, 2, api.ErrRange}, {x, -1, api.ErrRange}, {api.Game{}, 0, api.OK}, {api.Game{}, 1, api.OK}, {api.Game{}, 2, api.ErrRange}, {ring(3), 0, api.OK}, {ring(3), 1, api.OK},
	} {
		is, e := game.One(c.g, c.p)
		if e != c.want || e != api.OK && len(is) != 0 || e == api.OK && len(is) != len(c.g.Next) {
			t.Errorf("One(%v, %d) = %v, %d", c.g, c.p, is, e)
		}
	}
	if is, _ := game.One(ring(3), 1); slices.Contains(is, true) {
		t.Errorf("%v", is)
	}
}
