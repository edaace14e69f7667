package improve_test

import (
	"fmt"
	"math"
	"slices"
	"testing"

	"lodesman/api"
	"lodesman/game"
)

// generator makes things that look random but are the same in every run.
type generator uint32

func (g *generator) below(n int) int {
	*g = *g*1664525 + 1013904223
	return int(*g>>8) % n
}

// game makes a game whose positions have at most most successors.
func (g *generator) game(positions, priorities, most int) api.Game {
	var x api.Game
	for range positions {
		var next []int
		for range 1 + g.below(min(most, positions)) {
			next = append(next, g.below(positions))
		}
		slices.Sort(next)
		x.Owner = append(x.Owner, g.below(2))
		x.Priority = append(x.Priority, g.below(priorities))
		x.Next = append(x.Next, slices.Compact(next))
	}
	return x
}

// strategy makes a full strategy of a player.
func (g *generator) strategy(x api.Game, player int) []int {
	list := slices.Repeat([]int{-1}, len(x.Next))
	for v, next := range x.Next {
		if x.Owner[v] == player {
			list[v] = next[g.below(len(next))]
		}
	}
	return list
}

// first is the game of example 1 of layer 13.
func first() api.Game {
	return api.Game{Owner: []int{0, 1}, Priority: []int{1, 2}, Next: [][]int{{0, 1}, {0, 1}}}
}

// changed is the game of example 1 with one change.
func changed(change func(g *api.Game)) api.Game {
	g := first()
	change(&g)
	return g
}

// invalid are games that are not valid.
func invalid() []api.Game {
	return []api.Game{
		{Owner: []int{0}}, {Next: [][]int{{0}}}, {Owner: make([]int, 1<<20), Priority: make([]int, 1<<20), Next: make([][]int, 1<<20)}, ring(api.MaxPositions + 1),
		changed(func(g *api.Game) { g.Owner[1] = 2 }),
		changed(func(g *api.Game) { g.Owner[0] = -1 }),
		changed(func(g *api.Game) { g.Priority[0] = -1 }),
		changed(func(g *api.Game) { g.Priority[1] = 61 }),
		changed(func(g *api.Game) { g.Next[0] = nil }),
		changed(func(g *api.Game) { g.Next[0] = []int{1, 0} }),
		changed(func(g *api.Game) { g.Next[1] = []int{2} }),
		changed(func(g *api.Game) { g.Next[1] = []int{math.MinInt} }),
	}
}

// ring is a game whose positions, of owner 0, lead to the ones behind them.
func ring(positions int) api.Game {
	g := api.Game{Owner: make([]int, positions), Priority: make([]int, positions)}
	for v := range positions {
		g.Next = append(g.Next, []int{(v + 1) % positions})
	}
	return g
}

// crowd is a game with as many positions and successors as there may be.
func crowd(owner, priority func(v int) int) api.Game {
	var g api.Game
	for v := range api.MaxPositions {
		var next []int
		for k := range 64 {
			next = append(next, (v+1+k*k)%api.MaxPositions)
		}
		slices.Sort(next)
		g.Owner = append(g.Owner, owner(v))
		g.Priority = append(g.Priority, priority(v))
		g.Next = append(g.Next, next)
	}
	return g
}

// tower is a game with three positions on each level, for which Zielonka's recursion visits about 1.6 times as many games as with one level less.
func tower(levels int) api.Game {
	var g api.Game
	for i := range levels {
		a, p := 3*i, i%2
		next := [][]int{{a}, {a + 1}, {a}}
		if i+2 < levels {
			next[0] = []int{a + 6}
			next[1] = []int{a + 1, a + 6, a + 8}
		}
		if i > 0 {
			next[2] = []int{a - 2, a}
		}
		g.Owner = append(g.Owner, p, 1-p, 1-p)
		g.Priority = append(g.Priority, i, i, i)
		g.Next = append(g.Next, next...)
	}
	return g
}

// rooms is a game of circles of three positions, the last one of which player 1 can leave for a fourth one. From there player 0 can go to the next circle, but as long as it does not win that one it is better to stay. So the circles are won one after the other, from the last one on.
func rooms(count int) api.Game {
	var g api.Game
	for i := range count {
		v := 4 * i
		g.Owner = append(g.Owner, 0, 0, 1, 0)
		g.Priority = append(g.Priority, 2, 1, 1, 3)
		if i == count-1 {
			g.Next = append(g.Next, []int{v + 1}, []int{v + 2}, []int{v}, []int{v + 3})
		} else {
			g.Next = append(g.Next, []int{v + 1}, []int{v + 2}, []int{v, v + 3}, []int{v + 3, v + 5})
		}
	}
	return g
}

// ladder is a game whose positions can be left for the one before them and the one behind them.
func ladder(owner, priority func(v int) int) api.Game {
	var g api.Game
	for v := range api.MaxPositions {
		g.Owner = append(g.Owner, owner(v))
		g.Priority = append(g.Priority, priority(v))
		g.Next = append(g.Next, []int{max(v-1, 0), min(v+1, api.MaxPositions-1)})
	}
	return g
}

func copied(g api.Game) api.Game {
	c := api.Game{Owner: slices.Clone(g.Owner), Priority: slices.Clone(g.Priority)}
	for _, next := range g.Next {
		c.Next = append(c.Next, slices.Clone(next))
	}
	return c
}

func identical(g, h api.Game) bool {
	return slices.Equal(g.Owner, h.Owner) && slices.Equal(g.Priority, h.Priority) && slices.EqualFunc(g.Next, h.Next, slices.Equal)
}

// brief is the beginning of what is printed of something.
func brief(x any) string { return fmt.Sprintf("%.2000s", fmt.Sprint(x)) }

// strategies yields all full strategies of a player.
func strategies(x api.Game, player int) func(yield func(choice []int) bool) {
	return func(yield func(choice []int) bool) {
		place := make([]int, len(x.Next))
		for {
			choice := slices.Repeat([]int{-1}, len(place))
			for v, k := range place {
				if x.Owner[v] == player {
					choice[v] = x.Next[v][k]
				}
			}
			if !yield(choice) {
				return
			}
			v := 0
			for ; v < len(place); v++ {
				if place[v]++; x.Owner[v] == player && place[v] < len(x.Next[v]) {
					break
				}
				place[v] = 0
			}
			if v == len(place) {
				return
			}
		}
	}
}

// wins is from which positions a strategy wins against all strategies of the other player.
func wins(t *testing.T, x api.Game, player int, choice []int) []bool {
	t.Helper()
	is := slices.Repeat([]bool{true}, len(choice))
	for other := range strategies(x, 1-player) {
		both := slices.Clone(choice)
		for v, w := range other {
			if x.Owner[v] != player {
				both[v] = w
			}
		}
		for v := range both {
			_, _, winner, e := game.Play(x, both, v)
			if e != api.OK {
				t.Fatalf("%v, %v: %d", x, both, e)
			}
			is[v] = is[v] && winner == player
		}
	}
	return is
}

// winners is who wins each position: player 0 does if one of its strategies wins there.
func winners(t *testing.T, x api.Game) []int {
	t.Helper()
	list := slices.Repeat([]int{1}, len(x.Next))
	for choice := range strategies(x, 0) {
		for v, is := range wins(t, x, 0, choice) {
			if is {
				list[v] = 0
			}
		}
	}
	return list
}

// covers is whether all that is in m is in l.
func covers(l, m []bool) bool {
	for v, is := range m {
		if is && !l[v] {
			return false
		}
	}
	return true
}

// expectLoss checks that a play from v follows a strategy, and that the other player wins it.
func expectLoss(t *testing.T, x api.Game, player int, choice []int, v int, stem, loop []int) {
	t.Helper()
	if len(loop) == 0 || len(stem)+len(loop) > 2*len(x.Next) {
		t.Fatalf("%s, %d, %s from %d: %s, %s", brief(x), player, brief(choice), v, brief(stem), brief(loop))
	}
	path := slices.Concat(stem, loop, loop[:1])
	most := 0
	for i, w := range path[1:] {
		u := path[i]
		if !slices.Contains(x.Next[u], w) || x.Owner[u] == player && choice[u] != w {
			t.Fatalf("%s, %d, %s from %d: %s, %s", brief(x), player, brief(choice), v, brief(stem), brief(loop))
		}
		if i >= len(stem) {
			most = max(most, x.Priority[u])
		}
	}
	if path[0] != v || most%2 == player {
		t.Fatalf("%s, %d, %s from %d: %s, %s", brief(x), player, brief(choice), v, brief(stem), brief(loop))
	}
}

// expectSolution checks that a region is a solution, by the definition.
func expectSolution(t *testing.T, x api.Game, r api.Region) {
	t.Helper()
	if len(r.Winner) != len(x.Next) || len(r.Choice) != len(x.Next) {
		t.Fatalf("%s: %s", brief(x), brief(r))
	}
	for p := range 2 {
		mine, choices := make([]bool, len(x.Next)), slices.Repeat([]int{-1}, len(x.Next))
		for v, w := range r.Winner {
			mine[v] = w == p
			if mine[v] && x.Owner[v] == p {
				choices[v] = r.Choice[v]
			}
			if w != 0 && w != 1 || (r.Choice[v] == -1) != (x.Owner[v] != w) {
				t.Fatalf("%s: %s", brief(x), brief(r))
			}
		}
		fixed, e := game.Trade(x, choices, p)
		if e != api.OK {
			t.Fatalf("%s: %s, %d", brief(x), brief(r), e)
		}
		for v, next := range fixed.Next {
			if mine[v] && slices.ContainsFunc(next, func(w int) bool { return !mine[w] }) {
				t.Fatalf("%s: %s is left at %d", brief(x), brief(r), v)
			}
		}
		part, _, e := game.Sub(fixed, mine)
		lost, f := game.One(part, 1-p)
		if e != api.OK || f != api.OK || slices.Contains(lost, true) {
			t.Fatalf("%s: %s, player %d: %d, %d", brief(x), brief(r), p, e, f)
		}
	}
}
