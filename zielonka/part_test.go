package zielonka_test

import (
	"slices"
	"testing"

	"lodesman/api"
	"lodesman/game"
	"lodesman/zielonka"
)

// P13.3: any subgames; their winners are those of the restricted game
func TestPart(t *testing.T) {
	g := generator(11)
	tried := 0
	for range 3000 {
		x := g.game(1+g.below(16), 1+g.below(8), 1+g.below(4))
		keep := g.subgame(x)
		if !slices.Contains(keep, true) {
			continue
		}
		before, set := copied(x), slices.Clone(keep)
		r, e := zielonka.Part(x, keep)
		if e != api.OK || !identical(x, before) || !slices.Equal(keep, set) {
			t.Fatalf("Part(%v, %v) = %v, %d", before, set, r, e)
		}
		expectSolution(t, x, keep, r)
		h, of, _ := game.Sub(x, keep)
		s := solved(t, h)
		for v, w := range of {
			if r.Winner[w] != s.Winner[v] {
				t.Fatalf("Part(%v, %v) = %v, want %v", x, keep, r, s)
			}
		}
		if slices.Contains(keep, false) {
			tried++
		}
	}
	if tried < 1000 {
		t.Errorf("%d", tried)
	}
}

// P13.3: all positions, some of them, none, and the errors in their order
func TestPartCases(t *testing.T) {
	x := api.Game{Owner: []int{0, 1, 0}, Priority: []int{1, 2, 3}, Next: [][]int{{1, 2}, {0, 1}, {0}}}
	for _, c := range []struct {
		g    api.Game
		keep []bool
		want api.Errno
	}{
		{x, []bool{true, true, true}, api.OK}, {x, []bool{true, true, false}, api.OK}, {x, []bool{true, false, true}, api.OK}, {x, []bool{false, true, false}, api.OK},
		{x, []bool{false, false, false}, api.ErrForm}, {x, []bool{true, false, false}, api.ErrForm}, {x, []bool{false, true, true}, api.ErrForm}, {x, []bool{false, false, true}, api.ErrForm},
		{x, nil, api.ErrDim}, {x, []bool{true, true}, api.ErrDim}, {x, make([]bool, 4), api.ErrDim}, {x, make([]bool, 1<<20), api.ErrDim},
		{api.Game{}, nil, api.ErrForm}, {api.Game{}, []bool{true}, api.ErrDim}, {api.Game{}, []bool{}, api.ErrForm},
	} {
		r, e := zielonka.Part(c.g, c.keep)
		if e != c.want || e != api.OK && !zero(r) {
			t.Errorf("Part(%v, %v) = %v, %d", c.g, c.keep, r, e)
		}
		if e == api.OK {
			expectSolution(t, c.g, c.keep, r)
		}
	}
}

// P13.3: the limit is that of the positions that remain
func TestPartLimit(t *testing.T) {
	small := generator(12)
	x := beside(tower(40), small.game(16, 61, 3))
	keep := slices.Repeat([]bool{true}, 136)
	if r, e := zielonka.Part(x, keep); e != api.ErrFull || !zero(r) {
		t.Errorf("%v, %d", r, e)
	}
	for v := range 120 {
		keep[v] = false
	}
	r, e := zielonka.Part(x, keep)
	if e != api.OK {
		t.Fatal(e)
	}
	expectSolution(t, x, keep, r)
	x = beside(tower(40), stairs(3000))
	keep = append(slices.Repeat([]bool{false}, 120), slices.Repeat([]bool{true}, 6000)...)
	if r, e = zielonka.Part(x, keep); e != api.OK {
		t.Fatal(e)
	}
	expectSolution(t, x, keep, r)
}

// trapped is the union of all subsets that the other player cannot leave and in which player can stay.
func trapped(x api.Game, player int, set []bool) []int {
	union := 0
	for bits := range 1 << len(x.Next) {
		in := func(v int) bool { return bits>>v&1 == 1 }
		is := true
		for v, next := range x.Next {
			if !in(v) {
				continue
			}
			stays := 0
			for _, w := range next {
				if in(w) {
					stays++
				}
			}
			is = is && set[v] && (stays == len(next) || stays > 0 && x.Owner[v] == player)
		}
		if is {
			union |= bits
		}
	}
	var list []int
	for v := range x.Next {
		if union>>v&1 == 1 {
			list = append(list, v)
		}
	}
	return list
}

// P13.4 and P13.6: all subsets of sets in any order, with duplicates; what is won in a trap is won in the game
func TestTrap(t *testing.T) {
	g := generator(13)
	proper, inside := 0, 0
	for range 2000 {
		x := g.game(1+g.below(8), 1+g.below(6), 1+g.below(3))
		player := g.below(2)
		set := make([]bool, len(x.Next))
		var list []int
		for range g.below(16) {
			v := g.below(len(set))
			set[v] = true
			list = append(list, v)
		}
		before, order := copied(x), slices.Clone(list)
		trap, e := zielonka.Trap(x, player, list)
		want := trapped(x, player, set)
		if e != api.OK || !slices.Equal(trap, want) || !identical(x, before) || !slices.Equal(list, order) {
			t.Fatalf("Trap(%v, %d, %v) = %v, %d, want %v", x, player, order, trap, e, want)
		}
		if len(trap) == 0 {
			continue
		}
		proper++
		keep := make([]bool, len(set))
		for _, v := range trap {
			keep[v] = true
		}
		r, e := zielonka.Part(x, keep)
		whole := solved(t, x)
		for _, v := range trap {
			if e != api.OK || r.Winner[v] == player && whole.Winner[v] != player {
				t.Fatalf("%v, %d: %v, and %v in %v, %d", x, player, whole, r, trap, e)
			}
			if r.Winner[v] == player {
				inside++
			}
		}
	}
	if proper < 700 || inside < 700 {
		t.Errorf("%d, %d", proper, inside)
	}
}

// P13.4: empty sets, all positions, no positions, and the errors in their order
func TestTrapCases(t *testing.T) {
	x := api.Game{Owner: []int{0, 1, 0}, Priority: []int{1, 2, 3}, Next: [][]int{{1, 2}, {0, 1}, {0}}}
	for _, c := range []struct {
		g      api.Game
		player int
		set    []int
		want   []int
		e      api.Errno
	}{
		{x, 0, nil, nil, api.OK}, {x, 1, []int{}, nil, api.OK}, {x, 0, []int{2, 0, 1}, []int{0, 1, 2}, api.OK}, {x, 1, []int{1, 2, 0, 0}, []int{0, 1, 2}, api.OK},
		{x, 0, []int{2, 0}, []int{0, 2}, api.OK}, {x, 1, []int{2, 0}, nil, api.OK}, {x, 1, []int{1}, []int{1}, api.OK}, {x, 0, []int{1}, nil, api.OK}, {x, 0, []int{1, 0, 1}, []int{0, 1}, api.OK}, {x, 1, []int{0, 1}, []int{1}, api.OK}, {x, 0, []int{1, 2}, nil, api.OK},
		{api.Game{}, 0, nil, nil, api.OK}, {api.Game{}, 1, nil, nil, api.OK},
		{x, 2, nil, nil, api.ErrRange}, {x, -1, []int{0}, nil, api.ErrRange}, {x, 0, []int{0, 3}, nil, api.ErrRange}, {x, 1, []int{-1, 0}, nil, api.ErrRange}, {x, 1, []int{1 << 62}, nil, api.ErrRange}, {api.Game{}, 0, []int{0}, nil, api.ErrRange},
		{x, 1, make([]int, 1<<20), nil, api.OK},
	} {
		trap, e := zielonka.Trap(c.g, c.player, c.set)
		if e != c.e || !slices.Equal(trap, c.want) {
			t.Errorf("Trap(%v, %d, %s) = %v, %d", c.g, c.player, brief(c.set), trap, e)
		}
	}
}

// P13.4: as many positions as there may be
func TestTrapLarge(t *testing.T) {
	x := stairs(api.MaxPositions / 2)
	set := make([]int, 0, api.MaxPositions)
	for v := range api.MaxPositions - 1 {
		set = append(set, api.MaxPositions-1-v)
	}
	trap, e := zielonka.Trap(x, 0, set)
	if e != api.OK || len(trap) != api.MaxPositions-3 || !slices.Equal(trap[:3], []int{2, 4, 5}) || !slices.IsSorted(trap) {
		t.Errorf("%s, %d", brief(trap), e)
	}
	if trap, e = zielonka.Trap(x, 1, append(set, 0)); e != api.OK || len(trap) != api.MaxPositions || !slices.IsSorted(trap) {
		t.Errorf("%s, %d", brief(trap), e)
	}
	// from below, each position leads out of the set because the one below does
	for v := range x.Next {
		x.Next[v] = []int{max(v-1, 0)}
	}
	for p := range 2 {
		if trap, e := zielonka.Trap(x, p, set); e != api.OK || len(trap) != 0 {
			t.Errorf("%s, %d", brief(trap), e)
		}
	}
}
