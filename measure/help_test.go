package measure_test

import (
	"fmt"
	"math"
	"slices"
	"testing"

	"lodesman/api"
	"lodesman/game"
	"lodesman/measure"
)

// generator makes things that look random but are the same in every run.
type generator uint32

func (g *generator) below(n int) int {
	*g = *g*1664525 + 1013904223
	return int(*g>>8) % n
}

// game makes a game whose positions have at most most successors.
func (g *generator) game(positions, priorities, most int) api.Game {
	var x api.Game
	for range positions {
		var next []int
		for range 1 + g.below(min(most, positions)) {
			next = append(next, g.below(positions))
		}
		slices.Sort(next)
		x.Owner = append(x.Owner, g.below(2))
		x.Priority = append(x.Priority, g.below(priorities))
		x.Next = append(x.Next, slices.Compact(next))
	}
	return x
}

// first is the game of example 1.
func first() api.Game {
	return api.Game{Owner: []int{0, 1}, Priority: []int{1, 2}, Next: [][]int{{0, 1}, {0, 1}}}
}

// second is the game of example 2.
func second() api.Game {
	return api.Game{Owner: []int{1}, Priority: []int{3}, Next: [][]int{{0}}}
}

// changed is the game of example 1 with one change.
func changed(change func(g *api.Game)) api.Game {
	g := first()
	change(&g)
	return g
}

// invalid are games that are not valid.
func invalid() []api.Game {
	return []api.Game{
		{Owner: []int{0}}, {Next: [][]int{{0}}}, {Owner: make([]int, 1<<20), Priority: make([]int, 1<<20), Next: make([][]int, 1<<20)}, climb(api.MaxPositions),
		changed(func(g *api.Game) { g.Owner[1] = 2 }),
		changed(func(g *api.Game) { g.Owner[0] = -1 }),
		changed(func(g *api.Game) { g.Priority[0] = -1 }),
		changed(func(g *api.Game) { g.Priority[1] = 61 }),
		changed(func(g *api.Game) { g.Priority[1] = math.MaxInt }),
		changed(func(g *api.Game) { g.Next[0] = nil }),
		changed(func(g *api.Game) { g.Next[0] = []int{1, 0} }),
		changed(func(g *api.Game) { g.Next[1] = []int{2} }),
		changed(func(g *api.Game) { g.Next[1] = []int{math.MinInt} }),
	}
}

// climb is a path of steps of priority 1 down to position 0, which has priority 2. For each height that is given there is a position of priority 1 beside the path, which can be left for the step of that height only: its measure is raised one by one, to 1 more than that height.
func climb(steps int, heights ...int) api.Game {
	g := api.Game{Owner: []int{0}, Priority: []int{2}, Next: [][]int{{0}}}
	for v := range steps + len(heights) {
		next := []int{v}
		if v >= steps {
			next = []int{heights[v-steps], v + 1}
		}
		g.Owner, g.Priority, g.Next = append(g.Owner, 0), append(g.Priority, 1), append(g.Next, next)
	}
	return g
}

func copied(g api.Game) api.Game {
	c := api.Game{Owner: slices.Clone(g.Owner), Priority: slices.Clone(g.Priority)}
	for _, next := range g.Next {
		c.Next = append(c.Next, slices.Clone(next))
	}
	return c
}

func identical(g, h api.Game) bool {
	return slices.Equal(g.Owner, h.Owner) && slices.Equal(g.Priority, h.Priority) && slices.EqualFunc(g.Next, h.Next, slices.Equal)
}

// brief is the beginning of what is printed of something.
func brief(x any) string { return fmt.Sprintf("%.2000s", fmt.Sprint(x)) }

// list is a measure of numbers.
func list(l ...int) measure.Measure { return measure.Measure{List: l} }

// top is the greatest measure.
func top() measure.Measure { return measure.Measure{Top: true} }

func same(a, b measure.Measure) bool {
	return a.Top == b.Top && slices.Equal(a.List, b.List) && (!a.Top || len(a.List) == 0)
}

func allSame(a, b []measure.Measure) bool { return slices.EqualFunc(a, b, same) }

// less compares measures of one game.
func less(a, b measure.Measure) bool {
	return !a.Top && (b.Top || slices.Compare(a.List, b.List) < 0)
}

// doubled is measures with lists of their own.
func doubled(l []measure.Measure) []measure.Measure {
	var d []measure.Measure
	for _, m := range l {
		d = append(d, measure.Measure{Top: m.Top, List: slices.Clone(m.List)})
	}
	return d
}

// odd are the different odd priorities of a game, from the greatest on, and how many positions have them.
func odd(g api.Game) (priorities, counts []int) {
	for q := 59; q > 0; q -= 2 {
		n := 0
		for _, p := range g.Priority {
			if p == q {
				n++
			}
		}
		if n > 0 {
			priorities, counts = append(priorities, q), append(counts, n)
		}
	}
	return priorities, counts
}

// every is all measures of a game, in increasing order.
func every(g api.Game) []measure.Measure {
	_, counts := odd(g)
	var l []measure.Measure
	now := make([]int, len(counts))
	for {
		l = append(l, list(slices.Clone(now)...))
		i := len(now) - 1
		for i >= 0 && now[i] == counts[i] {
			now[i] = 0
			i--
		}
		if i < 0 {
			return append(l, top())
		}
		now[i]++
	}
}

// progress is prog by its definition.
func progress(g api.Game, m measure.Measure, q int) measure.Measure {
	if m.Top {
		return top()
	}
	priorities, _ := odd(g)
	j := 0
	for _, p := range priorities {
		if p >= q {
			j++
		}
	}
	for _, x := range every(g) {
		if x.Top {
			break
		}
		c := slices.Compare(x.List[:j], m.List[:j])
		zero := !slices.ContainsFunc(x.List[j:], func(n int) bool { return n != 0 })
		if zero && (c == 0 && q%2 == 0 || c > 0 && q%2 == 1) {
			return x
		}
	}
	return top()
}

// needed is the smallest measure that a position may have beside the measures of its successors.
func needed(g api.Game, l []measure.Measure, v int) measure.Measure {
	var best measure.Measure
	for k, w := range g.Next[v] {
		m := progress(g, l[w], g.Priority[v])
		if k == 0 || g.Owner[v] == 0 && less(m, best) || g.Owner[v] == 1 && less(best, m) {
			best = m
		}
	}
	return best
}

// lowest is the measures of a game: those of the definition, raised in the order of the positions.
func lowest(g api.Game) []measure.Measure {
	l := slices.Repeat([]measure.Measure{every(g)[0]}, len(g.Next))
	for again := true; again; {
		again = false
		for v := range l {
			if m := needed(g, l, v); less(l[v], m) {
				l[v], again = m, true
			}
		}
	}
	return l
}

// expectWin checks that a player wins from all of its positions with choices that do not leave them.
func expectWin(t *testing.T, g api.Game, p int, mine []bool, choices []int) {
	t.Helper()
	fixed, e := game.Trade(g, choices, p)
	if e != api.OK {
		t.Fatalf("%s: %s, %d", brief(g), brief(choices), e)
	}
	for v, next := range fixed.Next {
		if mine[v] && slices.ContainsFunc(next, func(w int) bool { return !mine[w] }) {
			t.Fatalf("%s: %s leaves %s at %d", brief(g), brief(choices), brief(mine), v)
		}
	}
	part, _, e := game.Sub(fixed, mine)
	lost, f := game.One(part, 1-p)
	if e != api.OK || f != api.OK || slices.Contains(lost, true) {
		t.Fatalf("%s: %s, %s: %d, %d", brief(g), brief(choices), brief(mine), e, f)
	}
}

// expectSolution checks that a region is a solution.
func expectSolution(t *testing.T, g api.Game, r api.Region) {
	t.Helper()
	if len(r.Winner) != len(g.Next) || len(r.Choice) != len(g.Next) {
		t.Fatalf("%s: %s", brief(g), brief(r))
	}
	for p := range 2 {
		mine, choices := make([]bool, len(g.Next)), slices.Repeat([]int{-1}, len(g.Next))
		for v, w := range r.Winner {
			mine[v] = w == p
			if mine[v] && g.Owner[v] == p {
				choices[v] = r.Choice[v]
			}
			if w != 0 && w != 1 || (r.Choice[v] == -1) != (g.Owner[v] != w) {
				t.Fatalf("%s: %s", brief(g), brief(r))
			}
		}
		expectWin(t, g, p, mine, choices)
	}
}
