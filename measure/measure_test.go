package measure_test

import (
	"math"
	"slices"
	"testing"

	"lodesman/api"
	"lodesman/game"
	"lodesman/measure"
	"lodesman/zielonka"
)

// The examples of the chapter, and games without positions or odd priorities
func TestExamples(t *testing.T) {
	for _, c := range []struct {
		g              api.Game
		want           []measure.Measure
		winner, choice []int
	}{
		{first(), []measure.Measure{list(1), list(0)}, []int{0, 0}, []int{1, -1}},
		{second(), []measure.Measure{top()}, []int{1}, []int{0}},
		{api.Game{}, nil, nil, nil},
		{api.Game{Owner: []int{0, 1}, Priority: []int{4, 0}, Next: [][]int{{1}, {0}}}, []measure.Measure{list(), list()}, []int{0, 0}, []int{1, -1}},
		{api.Game{Owner: []int{0, 0}, Priority: []int{59, 0}, Next: [][]int{{1}, {1}}}, []measure.Measure{list(1), list(0)}, []int{0, 0}, []int{1, 1}},
	} {
		l, e := measure.Measures(c.g)
		if e != api.OK || !allSame(l, c.want) {
			t.Errorf("Measures(%v) = %v, %d", c.g, l, e)
		}
		r, e := measure.Solve(c.g)
		if e != api.OK || !slices.Equal(r.Winner, c.winner) || !slices.Equal(r.Choice, c.choice) {
			t.Errorf("Solve(%v) = %v, %d", c.g, r, e)
		}
	}
}

// P14.1: all measures and priorities of any games
func TestProg(t *testing.T) {
	g := generator(1)
	seen := [2]int{}
	for range 200 {
		x := g.game(1+g.below(7), 1+g.below(10), 2)
		before := copied(x)
		priorities, _ := odd(x)
		for _, m := range every(x) {
			for q := range 12 {
				saved := measure.Measure{Top: m.Top, List: slices.Clone(m.List)}
				got, e := measure.Prog(x, m, q)
				if q%2 == 1 && !slices.Contains(priorities, q) {
					if e != api.ErrNone || !same(got, measure.Measure{}) {
						t.Fatalf("Prog(%v, %v, %d) = %v, %d", x, m, q, got, e)
					}
					continue
				}
				want := progress(x, m, q)
				if e != api.OK || !same(got, want) || !same(m, saved) || !identical(x, before) {
					t.Fatalf("Prog(%v, %v, %d) = %v, %d, want %v", x, m, q, got, e, want)
				}
				if got.Top && !m.Top {
					seen[0]++
				} else {
					seen[1]++
				}
			}
		}
	}
	if seen[0] < 100 || seen[1] < 5000 {
		t.Errorf("%v", seen)
	}
}

// P14.1: the greatest priorities, what is not a measure, and the errors in their order
func TestProgCases(t *testing.T) {
	x := api.Game{Owner: []int{0, 0, 0}, Priority: []int{59, 1, 1}, Next: [][]int{{0}, {0}, {0}}}
	for _, c := range []struct {
		g    api.Game
		m    measure.Measure
		q    int
		want measure.Measure
		e    api.Errno
	}{
		{x, list(1, 2), 60, list(0, 0), api.OK}, {x, list(1, 2), 2, list(1, 0), api.OK}, {x, list(1, 2), 58, list(1, 0), api.OK}, {x, list(1, 2), 0, list(1, 2), api.OK}, {x, list(1, 2), 1, top(), api.OK}, {x, list(0, 2), 1, list(1, 0), api.OK}, {x, list(0, 1), 1, list(0, 2), api.OK}, {x, list(0, 2), 59, list(1, 0), api.OK}, {x, list(1, 0), 59, top(), api.OK}, {x, top(), 60, top(), api.OK}, {x, top(), 1, top(), api.OK}, {x, top(), 0, top(), api.OK},
		{api.Game{}, list(), 60, list(), api.OK}, {api.Game{}, top(), 0, top(), api.OK}, {api.Game{}, top(), 1, list(), api.ErrNone}, {api.Game{}, list(0), 0, list(), api.ErrForm},
		{x, list(1, 3), 0, list(), api.ErrForm}, {x, list(2, 0), 0, list(), api.ErrForm}, {x, list(-1, 0), 61, list(), api.ErrForm}, {x, list(0, -1), 0, list(), api.ErrForm}, {x, list(0), 0, list(), api.ErrForm}, {x, list(0, 0, 0), 0, list(), api.ErrForm}, {x, list(), 3, list(), api.ErrForm}, {x, list(0, math.MaxInt), 0, list(), api.ErrForm},
		{x, measure.Measure{Top: true, List: []int{0, 0}}, 0, list(), api.ErrForm}, {x, measure.Measure{Top: true, List: []int{7}}, -1, list(), api.ErrForm}, {x, measure.Measure{Top: true, List: []int{}}, 0, top(), api.OK},
		{x, list(0, 0), 61, list(), api.ErrRange}, {x, list(0, 0), -1, list(), api.ErrRange}, {x, top(), math.MinInt, list(), api.ErrRange}, {x, top(), math.MaxInt, list(), api.ErrRange}, {x, list(0, 0), 3, list(), api.ErrNone}, {x, top(), 57, list(), api.ErrNone},
	} {
		if m, e := measure.Prog(c.g, c.m, c.q); e != c.e || !same(m, c.want) {
			t.Errorf("Prog(%v, %v, %d) = %v, %d", c.g, c.m, c.q, m, e)
		}
	}
}

// P14.2 and P14.6: the measures of the definition
func TestMeasures(t *testing.T) {
	g := generator(2)
	seen := [2]int{}
	for range 1500 {
		x := g.game(1+g.below(8), 1+g.below(7), 1+g.below(3))
		before := copied(x)
		l, e := measure.Measures(x)
		want := lowest(x)
		if e != api.OK || !allSame(l, want) || !identical(x, before) {
			t.Fatalf("Measures(%v) = %v, %d, want %v", x, l, e, want)
		}
		if is, e := measure.Small(x, l); !is || e != api.OK {
			t.Fatalf("Small(%v, %v) = %v, %d", x, l, is, e)
		}
		for _, m := range l {
			if m.Top {
				seen[1]++
			} else {
				seen[0]++
			}
		}
	}
	if seen[0] < 1000 || seen[1] < 1000 {
		t.Errorf("%v", seen)
	}
}

// P14.4 and P14.6: all lists of measures of small games; no measure is less than the smallest one
func TestSmall(t *testing.T) {
	g := generator(3)
	seen := [2]int{}
	for range 600 {
		x := g.game(1+g.below(3), 1+g.below(6), 2)
		choices := every(x)
		least := lowest(x)
		place := make([]int, len(x.Next))
		for v := 0; v < len(place); {
			l := make([]measure.Measure, len(place))
			for v, k := range place {
				l[v] = choices[k]
			}
			want, above := true, true
			for v, m := range l {
				want = want && !less(m, needed(x, l, v))
				above = above && !less(m, least[v])
			}
			saved := doubled(l)
			is, e := measure.Small(x, l)
			if e != api.OK || is != want || is && !above || !allSame(l, saved) {
				t.Fatalf("Small(%v, %v) = %v, %d, want %v, smallest %v", x, l, is, e, want, least)
			}
			if is {
				seen[1]++
			} else {
				seen[0]++
			}
			for v = 0; v < len(place); v++ {
				if place[v]++; place[v] < len(choices) {
					break
				}
				place[v] = 0
			}
		}
	}
	if seen[0] < 1000 || seen[1] < 1000 {
		t.Errorf("%v", seen)
	}
}

// P14.4: the errors in their order
func TestSmallCases(t *testing.T) {
	x := first()
	for _, c := range []struct {
		g    api.Game
		l    []measure.Measure
		is   bool
		want api.Errno
	}{
		{x, []measure.Measure{list(1), list(0)}, true, api.OK}, {x, []measure.Measure{list(1), list(1)}, false, api.OK}, {x, []measure.Measure{top(), list(0)}, false, api.OK}, {x, []measure.Measure{top(), top()}, true, api.OK}, {x, []measure.Measure{list(0), list(0)}, false, api.OK}, {x, []measure.Measure{list(1), top()}, false, api.OK},
		{api.Game{}, nil, true, api.OK}, {api.Game{}, []measure.Measure{}, true, api.OK}, {api.Game{}, []measure.Measure{top()}, false, api.ErrDim},
		{x, nil, false, api.ErrDim}, {x, []measure.Measure{list(7)}, false, api.ErrDim}, {x, make([]measure.Measure, 3), false, api.ErrDim},
		{x, []measure.Measure{list(0), list(2)}, false, api.ErrForm}, {x, []measure.Measure{list(-1), list(0)}, false, api.ErrForm}, {x, []measure.Measure{list(1), list()}, false, api.ErrForm}, {x, []measure.Measure{list(0), list(0, 0)}, false, api.ErrForm}, {x, []measure.Measure{list(1), {Top: true, List: []int{0}}}, false, api.ErrForm}, {x, make([]measure.Measure, 2), false, api.ErrForm},
	} {
		if is, e := measure.Small(c.g, c.l); is != c.is || e != c.want {
			t.Errorf("Small(%v, %v) = %v, %d", c.g, c.l, is, e)
		}
	}
}

// All functions: games that are not valid, before every other error
func TestInvalid(t *testing.T) {
	for _, g := range invalid() {
		m, e := measure.Prog(g, list(1, 2, 3, 4), -1)
		l, f := measure.Measures(g)
		if e != api.ErrArg || f != api.ErrArg || m.Top || len(m.List)+len(l) != 0 {
			t.Errorf("%s: %d, %d", brief(g), e, f)
		}
		r, e := measure.Solve(g)
		is, f := measure.Small(g, nil)
		if e != api.ErrArg || f != api.ErrArg || len(r.Winner)+len(r.Choice) != 0 || is {
			t.Errorf("%s: %d, %d", brief(g), e, f)
		}
	}
}

// All functions: the results share no memory
func TestMemory(t *testing.T) {
	x := climb(4, 2, 3)
	x.Owner = slices.Repeat([]int{1}, 7)
	x.Next[5], x.Next[6] = []int{2}, []int{2, 5}
	want := []measure.Measure{list(0), list(1), list(2), list(3), list(4), list(3), list(4)}
	for range 2 {
		l, e := measure.Measures(x)
		if e != api.OK || !allSame(l, want) {
			t.Fatalf("%v, %d", l, e)
		}
		for v := range l {
			l[v].List[0] = 77
			l[v].List = append(l[v].List, 88)
		}
		if slices.ContainsFunc(l, func(m measure.Measure) bool { return !same(m, list(77, 88)) }) {
			t.Fatalf("%v", l)
		}
	}
	two := api.Game{Owner: []int{0, 0, 0}, Priority: []int{3, 1, 1}, Next: [][]int{{0}, {0}, {0}}}
	m := list(1, 1)
	for q := range 4 {
		p, _ := measure.Prog(two, m, q)
		for i := range p.List {
			p.List[i] = 9
		}
		if p.List = append(p.List, 8); !same(m, list(1, 1)) {
			t.Fatalf("%d: %v", q, m)
		}
	}
	m.List = append(make([]int, 0, 9), 1, 0, 5)[:2]
	if p, e := measure.Prog(two, m, 3); e != api.OK || !same(p, top()) || !slices.Equal(m.List[:3], []int{1, 0, 5}) {
		t.Errorf("%v, %d, %v", p, e, m.List[:3])
	}
	r, _ := measure.Solve(x)
	choice := slices.Clone(r.Choice)
	for v := range r.Winner {
		r.Winner[v] = 7
	}
	if !slices.Equal(r.Choice, choice) {
		t.Errorf("%v", r)
	}
}

// P14.3, P14.5 and P14.8: any games; the winner is that of layer 13
func TestSolve(t *testing.T) {
	g := generator(4)
	won := [2]int{}
	for range 3000 {
		x := g.game(1+g.below(20), 1+g.below(8), 1+g.below(4))
		before := copied(x)
		r, e := measure.Solve(x)
		l, f := measure.Measures(x)
		z, h := zielonka.Solve(x)
		if e != api.OK || f != api.OK || h != api.OK || !slices.Equal(r.Winner, z.Winner) || !identical(x, before) {
			t.Fatalf("Solve(%v) = %v, %d, want %v", before, r, e, z)
		}
		expectSolution(t, x, r)
		for v, w := range r.Winner {
			if l[v].Top != (w == 1) {
				t.Fatalf("%v: %v, %v", x, r, l)
			}
			won[w]++
		}
	}
	if won[0] < 5000 || won[1] < 5000 {
		t.Errorf("%v", won)
	}
}

// P14.7: all successors for which the measure is large enough
func TestStrategy(t *testing.T) {
	g := generator(5)
	several := 0
	for range 1500 {
		x := g.game(1+g.below(15), 1+g.below(8), 1+g.below(5))
		l, e := measure.Measures(x)
		if e != api.OK {
			t.Fatalf("%v: %d", x, e)
		}
		mine := make([]bool, len(l))
		good := make([][]int, len(l))
		for v, m := range l {
			mine[v] = !m.Top
			for _, w := range x.Next[v] {
				p, e := measure.Prog(x, l[w], x.Priority[v])
				if e != api.OK {
					t.Fatalf("%v: %d", x, e)
				}
				if !less(m, p) {
					good[v] = append(good[v], w)
				}
			}
		}
		for range 5 {
			choices := slices.Repeat([]int{-1}, len(l))
			for v, list := range good {
				if mine[v] && x.Owner[v] == 0 {
					choices[v] = list[g.below(len(list))]
					several += len(list) / 2
				}
			}
			expectWin(t, x, 0, mine, choices)
		}
	}
	if several < 3000 {
		t.Errorf("%d", several)
	}
}

// P14.3: the errors of Dual
func TestSolveFull(t *testing.T) {
	x := first()
	x.Priority[1] = 60
	if r, e := measure.Solve(x); e != api.ErrFull || len(r.Winner)+len(r.Choice) != 0 {
		t.Errorf("%v, %d", r, e)
	}
	if l, e := measure.Measures(x); e != api.OK || !allSame(l, []measure.Measure{list(1), list(0)}) {
		t.Errorf("%v, %d", l, e)
	}
	x.Priority[1] = 59
	if r, e := measure.Solve(x); e != api.OK || !slices.Equal(r.Winner, []int{1, 1}) {
		t.Errorf("%v, %d", r, e)
	}
	d, e := game.Dual(x)
	if r, f := measure.Solve(d); e != api.OK || f != api.ErrFull || len(r.Winner)+len(r.Choice) != 0 {
		t.Errorf("%v, %d, %d", r, e, f)
	}
}
