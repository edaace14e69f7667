package verify_test

import (
	"fmt"
	"math"
	"slices"
	"testing"

	"lodesman/api"
	"lodesman/game"
	"lodesman/verify"
)

// generator makes things that look random but are the same in every run.
type generator uint32

func (g *generator) below(n int) int {
	*g = *g*1664525 + 1013904223
	return int(*g>>8) % n
}

// game makes a game whose positions have at most most successors.
func (g *generator) game(positions, priorities, most int) api.Game {
	var x api.Game
	for range positions {
		var next []int
		for range 1 + g.below(min(most, positions)) {
			next = append(next, g.below(positions))
		}
		slices.Sort(next)
		x.Owner = append(x.Owner, g.below(2))
		x.Priority = append(x.Priority, g.below(priorities))
		x.Next = append(x.Next, slices.Compact(next))
	}
	return x
}

// strategy makes a full strategy of a player.
func (g *generator) strategy(x api.Game, player int) []int {
	list := slices.Repeat([]int{-1}, len(x.Next))
	for v, next := range x.Next {
		if x.Owner[v] == player {
			list[v] = next[g.below(len(next))]
		}
	}
	return list
}

// claim makes a claim.
func (g *generator) claim(x api.Game) api.Region {
	var r api.Region
	for v, next := range x.Next {
		w, c := g.below(2), -1
		if x.Owner[v] == w {
			c = next[g.below(len(next))]
		}
		r.Winner, r.Choice = append(r.Winner, w), append(r.Choice, c)
	}
	return r
}

// play makes a play of at most most positions.
func (g *generator) play(x api.Game, most int) verify.Play {
	for {
		path := []int{g.below(len(x.Next))}
		for range g.below(most) {
			next := x.Next[path[len(path)-1]]
			path = append(path, next[g.below(len(next))])
		}
		k := g.below(len(path))
		if slices.Contains(x.Next[path[len(path)-1]], path[k]) {
			return verify.Play{Stem: slices.Clone(path[:k]), Loop: slices.Clone(path[k:])}
		}
	}
}

// first is the game of example 1 of layer 13.
func first() api.Game {
	return api.Game{Owner: []int{0, 1}, Priority: []int{1, 2}, Next: [][]int{{0, 1}, {0, 1}}}
}

// changed is the game of example 1 with one change.
func changed(change func(g *api.Game)) api.Game {
	g := first()
	change(&g)
	return g
}

// invalid are games that are not valid.
func invalid() []api.Game {
	return []api.Game{
		{Owner: []int{0}}, {Next: [][]int{{0}}}, {Owner: make([]int, 1<<20), Priority: make([]int, 1<<20), Next: make([][]int, 1<<20)}, ring(api.MaxPositions + 1),
		changed(func(g *api.Game) { g.Owner[1] = 2 }),
		changed(func(g *api.Game) { g.Owner[0] = -1 }),
		changed(func(g *api.Game) { g.Priority[0] = -1 }),
		changed(func(g *api.Game) { g.Priority[1] = 61 }),
		changed(func(g *api.Game) { g.Next[0] = nil }),
		changed(func(g *api.Game) { g.Next[0] = []int{1, 0} }),
		changed(func(g *api.Game) { g.Next[1] = []int{2} }),
		changed(func(g *api.Game) { g.Next[1] = []int{math.MinInt} }),
	}
}

// ring is a game whose positions, of owner 0, lead to the ones behind them.
func ring(positions int) api.Game {
	g := api.Game{Owner: make([]int, positions), Priority: make([]int, positions)}
	for v := range positions {
		g.Next = append(g.Next, []int{(v + 1) % positions})
	}
	return g
}

func copied(g api.Game) api.Game {
	c := api.Game{Owner: slices.Clone(g.Owner), Priority: slices.Clone(g.Priority)}
	for _, next := range g.Next {
		c.Next = append(c.Next, slices.Clone(next))
	}
	return c
}

func identical(g, h api.Game) bool {
	return slices.Equal(g.Owner, h.Owner) && slices.Equal(g.Priority, h.Priority) && slices.EqualFunc(g.Next, h.Next, slices.Equal)
}

// doubled is a region with lists of its own.
func doubled(r api.Region) api.Region {
	return api.Region{Winner: slices.Clone(r.Winner), Choice: slices.Clone(r.Choice)}
}

func same(r, s api.Region) bool {
	return slices.Equal(r.Winner, s.Winner) && slices.Equal(r.Choice, s.Choice)
}

func alike(p, q verify.Play) bool {
	return slices.Equal(p.Stem, q.Stem) && slices.Equal(p.Loop, q.Loop)
}

// zero reports whether p is the zero value, as a result beside an error has to be.
func zero(p verify.Play) bool { return len(p.Stem)+len(p.Loop) == 0 }

// brief is the beginning of what is printed of something.
func brief(x any) string { return fmt.Sprintf("%.2000s", fmt.Sprint(x)) }

// claims yields all claims about a game.
func claims(x api.Game) func(yield func(r api.Region) bool) {
	return func(yield func(r api.Region) bool) {
		place := make([]int, len(x.Next)) // 0: won by the other player; from 1 on: the choices of the owner
		for {
			var r api.Region
			for v, k := range place {
				w, c := 1-x.Owner[v], -1
				if k > 0 {
					w, c = x.Owner[v], x.Next[v][k-1]
				}
				r.Winner, r.Choice = append(r.Winner, w), append(r.Choice, c)
			}
			if !yield(r) {
				return
			}
			v := 0
			for ; v < len(place); v++ {
				if place[v]++; place[v] <= len(x.Next[v]) {
					break
				}
				place[v] = 0
			}
			if v == len(place) {
				return
			}
		}
	}
}

// plays yields all plays of a game with at most most positions.
func plays(x api.Game, most int) func(yield func(p verify.Play) bool) {
	return func(yield func(p verify.Play) bool) {
		var path []int
		var extend func(next []int) bool
		extend = func(next []int) bool {
			for k, v := range path {
				if slices.Contains(next, v) && !yield(verify.Play{Stem: slices.Clone(path[:k]), Loop: slices.Clone(path[k:])}) {
					return false
				}
			}
			if len(path) == most {
				return true
			}
			for _, v := range next {
				path = append(path, v)
				if !extend(x.Next[v]) {
					return false
				}
				path = path[:len(path)-1]
			}
			return true
		}
		var all []int
		for v := range x.Next {
			all = append(all, v)
		}
		extend(all)
	}
}

// isCounter is whether a play is a counterplay, step by step: going round the loop twice shows all of it.
func isCounter(x api.Game, r api.Region, p verify.Play) bool {
	path := slices.Concat(p.Stem, p.Loop, p.Loop)
	w, left, most := r.Winner[path[0]], false, 0
	for i, v := range path[:len(path)-1] {
		if x.Owner[v] == w && r.Winner[v] == w && r.Choice[v] != path[i+1] {
			return false
		}
		left = left || r.Winner[v] != w
	}
	for _, v := range p.Loop {
		left = left || r.Winner[v] != w
		most = max(most, x.Priority[v])
	}
	return left || most%2 != w
}

// isCorrect is whether no play against a claim is lost: it is enough to try one choice for each position.
func isCorrect(t *testing.T, x api.Game, r api.Region) bool {
	t.Helper()
	for w := range 2 {
		place := make([]int, len(x.Next))
		for {
			choices := make([]int, len(place))
			free := make([]bool, len(place))
			for v, k := range place {
				choices[v] = x.Next[v][k]
				free[v] = x.Owner[v] != w || r.Winner[v] != w
				if !free[v] {
					choices[v] = r.Choice[v]
				}
			}
			for v := range choices {
				if r.Winner[v] != w {
					continue
				}
				stem, loop, winner, e := game.Play(x, choices, v)
				if e != api.OK {
					t.Fatalf("%v, %v: %d", x, choices, e)
				}
				if winner != w || slices.ContainsFunc(slices.Concat(stem, loop), func(u int) bool { return r.Winner[u] != w }) {
					return false
				}
			}
			v := 0
			for ; v < len(place); v++ {
				if place[v]++; free[v] && place[v] < len(x.Next[v]) {
					break
				}
				place[v] = 0
			}
			if v == len(place) {
				break
			}
		}
	}
	return true
}

// expectCounter checks what Check returns beside ErrBroken.
func expectCounter(t *testing.T, x api.Game, r api.Region, p verify.Play) {
	t.Helper()
	if len(p.Loop) == 0 || len(p.Stem)+len(p.Loop) > 2*len(x.Next) {
		t.Fatalf("Check(%s, %s) = %s", brief(x), brief(r), brief(p))
	}
	path := slices.Concat(p.Stem, p.Loop, p.Loop[:1])
	for i, w := range path[1:] {
		if !slices.Contains(x.Next[path[i]], w) {
			t.Fatalf("Check(%s, %s) = %s", brief(x), brief(r), brief(p))
		}
	}
	is, e := verify.Counter(x, r, p)
	if !isCounter(x, r, p) || !is || e != api.OK {
		t.Fatalf("Check(%s, %s) = %s; %t, %d", brief(x), brief(r), brief(p), is, e)
	}
}
