package zielonka_test

import (
	"fmt"
	"math"
	"slices"
	"testing"

	"lodesman/api"
	"lodesman/game"
	"lodesman/zielonka"
)

// generator makes things that look random but are the same in every run.
type generator uint32

func (g *generator) below(n int) int {
	*g = *g*1664525 + 1013904223
	return int(*g>>8) % n
}

// game makes a game whose positions have at most most successors.
func (g *generator) game(positions, priorities, most int) api.Game {
	var x api.Game
	for range positions {
		var next []int
		for range 1 + g.below(min(most, positions)) {
			next = append(next, g.below(positions))
		}
		slices.Sort(next)
		x.Owner = append(x.Owner, g.below(2))
		x.Priority = append(x.Priority, g.below(priorities))
		x.Next = append(x.Next, slices.Compact(next))
	}
	return x
}

// set makes a set of positions.
func (g *generator) set(positions, of int) []bool {
	list := make([]bool, positions)
	for v := range list {
		list[v] = g.below(of) == 0
	}
	return list
}

// subgame makes a set of positions each of which has a successor in it, or an empty one.
func (g *generator) subgame(x api.Game) []bool {
	keep := g.set(len(x.Next), 2+g.below(3))
	for v := range keep {
		keep[v] = !keep[v]
	}
	for range keep {
		for v := range keep {
			keep[v] = keep[v] && slices.ContainsFunc(x.Next[v], func(w int) bool { return keep[w] })
		}
	}
	return keep
}

// first is the game of example 1.
func first() api.Game {
	return api.Game{Owner: []int{0, 1}, Priority: []int{1, 2}, Next: [][]int{{0, 1}, {0, 1}}}
}

// changed is the game of example 1 with one change.
func changed(change func(g *api.Game)) api.Game {
	g := first()
	change(&g)
	return g
}

// invalid are games that are not valid.
func invalid() []api.Game {
	return []api.Game{
		{Owner: []int{0}}, {Next: [][]int{{0}}}, {Owner: make([]int, 1<<20), Priority: make([]int, 1<<20), Next: make([][]int, 1<<20)}, stairs(api.MaxPositions/2 + 1),
		changed(func(g *api.Game) { g.Owner[1] = 2 }),
		changed(func(g *api.Game) { g.Owner[0] = -1 }),
		changed(func(g *api.Game) { g.Priority[0] = -1 }),
		changed(func(g *api.Game) { g.Priority[1] = 61 }),
		changed(func(g *api.Game) { g.Next[0] = nil }),
		changed(func(g *api.Game) { g.Next[0] = []int{1, 0} }),
		changed(func(g *api.Game) { g.Next[1] = []int{2} }),
		changed(func(g *api.Game) { g.Next[1] = []int{math.MinInt} }),
	}
}

// tower is a game with three positions on each level, for which the recursion visits about 1.6 times as many games as with one level less.
func tower(levels int) api.Game {
	var g api.Game
	for i := range levels {
		a, p := 3*i, i%2
		next := [][]int{{a}, {a + 1}, {a}}
		if i+2 < levels {
			next[0] = []int{a + 6}
			next[1] = []int{a + 1, a + 6, a + 8}
		}
		if i > 0 {
			next[2] = []int{a - 2, a}
		}
		g.Owner = append(g.Owner, p, 1-p, 1-p)
		g.Priority = append(g.Priority, i, i, i)
		g.Next = append(g.Next, next...)
	}
	return g
}

// stairs is a game of two priorities. Player 0 can step from 2 i to 2 i + 1 or stay and lose; from there player 1 goes down to 2 i - 2: the steps are lost one after the other, from below.
func stairs(steps int) api.Game {
	var g api.Game
	for i := range steps {
		v := 2 * i
		g.Owner = append(g.Owner, 0, 1)
		g.Priority = append(g.Priority, 1, 2)
		if i == 0 {
			g.Next = append(g.Next, []int{0}, []int{0})
			continue
		}
		g.Next = append(g.Next, []int{v, v + 1}, []int{v - 2, v})
	}
	return g
}

// beside is two games, the positions of the second one behind those of the first one.
func beside(g, h api.Game) api.Game {
	n := len(g.Next)
	x := copied(g)
	x.Owner = append(x.Owner, h.Owner...)
	x.Priority = append(x.Priority, h.Priority...)
	for _, next := range copied(h).Next {
		for k := range next {
			next[k] += n
		}
		x.Next = append(x.Next, next)
	}
	return x
}

func copied(g api.Game) api.Game {
	c := api.Game{Owner: slices.Clone(g.Owner), Priority: slices.Clone(g.Priority)}
	for _, next := range g.Next {
		c.Next = append(c.Next, slices.Clone(next))
	}
	return c
}

func identical(g, h api.Game) bool {
	return slices.Equal(g.Owner, h.Owner) && slices.Equal(g.Priority, h.Priority) && slices.EqualFunc(g.Next, h.Next, slices.Equal)
}

// zero reports whether r is the zero value, as a result beside an error has to be.
func zero(r api.Region) bool { return len(r.Winner)+len(r.Choice) == 0 }

// brief is the beginning of what is printed of something.
func brief(x any) string { return fmt.Sprintf("%.2000s", fmt.Sprint(x)) }

// all is the set of all positions.
func all(g api.Game) []bool { return slices.Repeat([]bool{true}, len(g.Next)) }

// winners is who wins each position: player 0 does if it has choices against which player 1 alone cannot win.
func winners(t *testing.T, x api.Game) []int {
	t.Helper()
	list := slices.Repeat([]int{1}, len(x.Next))
	place := make([]int, len(x.Next))
	for {
		choices := slices.Repeat([]int{-1}, len(place))
		for v, k := range place {
			if x.Owner[v] == 0 {
				choices[v] = x.Next[v][k]
			}
		}
		fixed, e := game.Trade(x, choices, 0)
		lost, f := game.One(fixed, 1)
		if e != api.OK || f != api.OK {
			t.Fatalf("%v, %v: %d, %d", x, choices, e, f)
		}
		for v, is := range lost {
			if !is {
				list[v] = 0
			}
		}
		v := 0
		for ; v < len(place); v++ {
			if place[v]++; x.Owner[v] == 0 && place[v] < len(x.Next[v]) {
				break
			}
			place[v] = 0
		}
		if v == len(place) {
			return list
		}
	}
}

// expectSolution checks that a region is a solution of the subgame of some positions, by the definition.
func expectSolution(t *testing.T, x api.Game, keep []bool, r api.Region) {
	t.Helper()
	if len(r.Winner) != len(keep) || len(r.Choice) != len(keep) {
		t.Fatalf("%s: %s", brief(x), brief(r))
	}
	for v, next := range x.Next {
		w, c := r.Winner[v], r.Choice[v]
		inside := func(to int) bool { return !keep[to] || r.Winner[to] == w }
		right := keep[v] && (w == 0 || w == 1)
		switch {
		case !keep[v]:
			right = w == -1 && c == -1
		case x.Owner[v] == w:
			right = right && slices.Contains(next, c) && keep[c] && inside(c)
		default:
			right = right && c == -1 && !slices.ContainsFunc(next, func(to int) bool { return !inside(to) })
		}
		if !right {
			t.Fatalf("%s in %s: %s at %d", brief(x), brief(keep), brief(r), v)
		}
	}
	for p := range 2 {
		mine := make([]bool, len(keep))
		choices := slices.Repeat([]int{-1}, len(keep))
		for v := range mine {
			mine[v] = r.Winner[v] == p
			if mine[v] && x.Owner[v] == p {
				choices[v] = r.Choice[v]
			}
		}
		fixed, e := game.Trade(x, choices, p)
		part, _, f := game.Sub(fixed, mine)
		lost, h := game.One(part, 1-p)
		if e != api.OK || f != api.OK || h != api.OK || slices.Contains(lost, true) {
			t.Fatalf("%s in %s: %s, player %d: %d, %d, %d", brief(x), brief(keep), brief(r), p, e, f, h)
		}
	}
}

// solved is what Solve returns, checked.
func solved(t *testing.T, x api.Game) api.Region {
	t.Helper()
	r, e := zielonka.Solve(x)
	if e != api.OK {
		t.Fatalf("Solve(%s): %d", brief(x), e)
	}
	expectSolution(t, x, all(x), r)
	return r
}
