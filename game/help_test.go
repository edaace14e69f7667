package game_test

import (
	"fmt"
	"math"
	"slices"
	"testing"

	"lodesman/api"
	"lodesman/game"
)

// generator makes things that look random but are the same in every run.
type generator uint32

func (g *generator) below(n int) int {
	*g = *g*1664525 + 1013904223
	return int(*g>>8) % n
}

// game makes a game whose positions have at most most successors.
func (g *generator) game(positions, priorities, most int) api.Game {
	var x api.Game
	for range positions {
		var next []int
		for range 1 + g.below(min(most, positions)) {
			next = append(next, g.below(positions))
		}
		slices.Sort(next)
		x.Owner = append(x.Owner, g.below(2))
		x.Priority = append(x.Priority, g.below(priorities))
		x.Next = append(x.Next, slices.Compact(next))
	}
	return x
}

// alone makes a game in which only player p has choices.
func (g *generator) alone(p, positions, priorities, most int) api.Game {
	x := g.game(positions, priorities, most)
	for v := range x.Next {
		if x.Owner[v] != p {
			x.Next[v] = x.Next[v][:1]
		}
	}
	return x
}

// set makes a set of positions.
func (g *generator) set(positions, of int) []bool {
	list := make([]bool, positions)
	for v := range list {
		list[v] = g.below(of) == 0
	}
	return list
}

// choices makes one choice for each position.
func (g *generator) choices(x api.Game) []int {
	list := make([]int, len(x.Next))
	for v, next := range x.Next {
		list[v] = next[g.below(len(next))]
	}
	return list
}

// example is the game of example 1.
func example() api.Game {
	return api.Game{Owner: []int{0, 1}, Priority: []int{1, 2}, Next: [][]int{{0, 1}, {0}}}
}

// changed is the game of example 1 with one change.
func changed(change func(g *api.Game)) api.Game {
	g := example()
	change(&g)
	return g
}

// ring is a game whose positions, of owner 0, lead to the ones behind them.
func ring(positions int) api.Game {
	g := api.Game{Owner: make([]int, positions), Priority: make([]int, positions)}
	for v := range positions {
		g.Next = append(g.Next, []int{(v + 1) % positions})
	}
	return g
}

// crowd is a game with as many positions and successors as there may be.
func crowd(owner, priority func(v int) int) api.Game {
	var g api.Game
	for v := range api.MaxPositions {
		var next []int
		for k := range 64 {
			next = append(next, (v+1+k*k)%api.MaxPositions)
		}
		slices.Sort(next)
		g.Owner = append(g.Owner, owner(v))
		g.Priority = append(g.Priority, priority(v))
		g.Next = append(g.Next, next)
	}
	return g
}

func copied(g api.Game) api.Game {
	c := api.Game{Owner: slices.Clone(g.Owner), Priority: slices.Clone(g.Priority)}
	for _, next := range g.Next {
		c.Next = append(c.Next, slices.Clone(next))
	}
	return c
}

func identical(g, h api.Game) bool {
	return slices.Equal(g.Owner, h.Owner) && slices.Equal(g.Priority, h.Priority) && slices.EqualFunc(g.Next, h.Next, slices.Equal)
}

// zero reports whether g is the zero value, as a result beside an error has to be.
func zero(g api.Game) bool { return identical(g, api.Game{}) }

// brief is the beginning of what is printed of something.
func brief(x any) string { return fmt.Sprintf("%.2000s", fmt.Sprint(x)) }

// spoil changes all of a game.
func spoil(g api.Game) {
	for v := range g.Next {
		g.Owner[v], g.Priority[v] = 77, 77
		for k := range g.Next[v] {
			g.Next[v][k] = 77
		}
		g.Next[v] = nil
	}
}

// invalid are games that are not valid.
func invalid() []api.Game {
	long := ring(64)
	long.Next[9] = make([]int, 1<<20)
	return []api.Game{
		ring(api.MaxPositions + 1), long, {Owner: make([]int, 1<<20), Priority: make([]int, 1<<20), Next: make([][]int, 1<<20)},
		{Owner: []int{0}}, {Priority: []int{0}}, {Next: [][]int{{0}}}, {Owner: []int{0}, Priority: []int{0}}, {Owner: []int{0}, Next: [][]int{{0}}}, {Priority: []int{0}, Next: [][]int{{0}}},
		changed(func(g *api.Game) { g.Owner = append(g.Owner, 0) }),
		changed(func(g *api.Game) { g.Priority = append(g.Priority, 0) }),
		changed(func(g *api.Game) { g.Next = append(g.Next, []int{0}) }),
		changed(func(g *api.Game) { g.Owner[1] = 2 }),
		changed(func(g *api.Game) { g.Owner[0] = -1 }),
		changed(func(g *api.Game) { g.Owner[0] = math.MinInt }),
		changed(func(g *api.Game) { g.Priority[0] = -1 }),
		changed(func(g *api.Game) { g.Priority[1] = 61 }),
		changed(func(g *api.Game) { g.Priority[1] = math.MaxInt }),
		changed(func(g *api.Game) { g.Next[0] = nil }),
		changed(func(g *api.Game) { g.Next[1] = []int{} }),
		changed(func(g *api.Game) { g.Next[0] = []int{1, 0} }),
		changed(func(g *api.Game) { g.Next[0] = []int{0, 0} }),
		changed(func(g *api.Game) { g.Next[0] = []int{0, 1, 1} }),
		changed(func(g *api.Game) { g.Next[1] = []int{2} }),
		changed(func(g *api.Game) { g.Next[1] = []int{-1} }),
		changed(func(g *api.Game) { g.Next[1] = []int{-1, 0} }),
		changed(func(g *api.Game) { g.Next[1] = []int{math.MaxInt} }),
	}
}

// P12.1: each limit exactly, and one more
func TestValid(t *testing.T) {
	full := ring(65)
	for w := range 63 {
		full.Next[64] = append(full.Next[64], w+1)
	}
	full.Priority[3] = 60
	for _, g := range []api.Game{{}, {Owner: []int{}, Priority: []int{}, Next: [][]int{}}, example(), ring(1), ring(api.MaxPositions), full} {
		if !game.Valid(g) {
			t.Errorf("%s", brief(g))
		}
	}
	full.Next[64] = append(full.Next[64], 64)
	for _, g := range append(invalid(), full) {
		if game.Valid(g) {
			t.Errorf("%s", brief(g))
		}
	}
	g := generator(1)
	for range 500 {
		if x := g.game(1+g.below(100), 61, 64); !game.Valid(x) {
			t.Fatalf("%v", x)
		}
	}
}

// All functions: games that are not valid, before every other error
func TestInvalid(t *testing.T) {
	for _, g := range invalid() {
		steps, choice, e := game.Attract(g, 7, nil)
		stem, loop, winner, f := game.Play(g, []int{9, 9, 9}, -1)
		if e != api.ErrArg || f != api.ErrArg || len(steps)+len(choice)+len(stem)+len(loop)+winner != 0 {
			t.Errorf("%s: %d, %d", brief(g), e, f)
		}
		d, e := game.Dual(g)
		h, of, f := game.Sub(g, nil)
		if e != api.ErrArg || f != api.ErrArg || !zero(d) || !zero(h) || len(of) != 0 {
			t.Errorf("%s: %d, %d", brief(g), e, f)
		}
		is, e := game.One(g, 5)
		x, f := game.Trade(g, nil, 3)
		if e != api.ErrArg || f != api.ErrArg || len(is) != 0 || !zero(x) {
			t.Errorf("%s: %d, %d", brief(g), e, f)
		}
	}
}
