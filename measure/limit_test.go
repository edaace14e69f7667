package measure_test

import (
	"slices"
	"testing"

	"lodesman/api"
	"lodesman/game"
	"lodesman/measure"
	"lodesman/zielonka"
)

// P14.2: measures that have to be raised 2^20 times, and once more
func TestRaised(t *testing.T) {
	heights := append(slices.Repeat([]int{5000}, 208), 3367)
	x := climb(5000, heights...)
	l, e := measure.Measures(x)
	if e != api.OK || !same(l[5000], list(5000)) || !same(l[5001], list(5001)) || !same(l[5209], list(3368)) {
		t.Errorf("%d", e)
	}
	if r, e := measure.Solve(x); e != api.OK || slices.Contains(r.Winner, 1) {
		t.Errorf("%s, %d", brief(r), e)
	}
	x = climb(5000, append(heights, 0)...)
	if l, e = measure.Measures(x); e != api.ErrFull || len(l) != 0 {
		t.Errorf("%s, %d", brief(l), e)
	}
	if r, e := measure.Solve(x); e != api.ErrFull || len(r.Winner)+len(r.Choice) != 0 {
		t.Errorf("%s, %d", brief(r), e)
	}
	// the measures of the game itself are not the only ones that count
	d, _ := game.Dual(x)
	if l, e = measure.Measures(d); e != api.OK || slices.ContainsFunc(l, func(m measure.Measure) bool { return !m.Top }) {
		t.Errorf("%s, %d", brief(l), e)
	}
	if r, e := measure.Solve(d); e != api.ErrFull || len(r.Winner)+len(r.Choice) != 0 {
		t.Errorf("%s, %d", brief(r), e)
	}
	// what has been raised before does not count
	if _, e = measure.Measures(climb(5000, heights...)); e != api.OK {
		t.Errorf("%d", e)
	}
}

// P14.2: never ErrFull if the positions times all products are at most 2^20
func TestNeverFull(t *testing.T) {
	g := generator(21)
	for _, c := range []struct {
		positions, priorities int
		counts                []int // of the odd priorities from 1 on
	}{
		{1024, 3, []int{1023}}, {20000, 2, []int{51}}, {512, 4, []int{22, 88}}, {256, 6, []int{15, 15, 15}}, {40, 20, slices.Repeat([]int{2}, 9)}, {4096, 8, []int{3, 3, 3, 3}}, {1024, 20, slices.Repeat([]int{1}, 10)}, {20000, 7, nil},
	} {
		for _, most := range []int{2, 3, 20} {
			x := g.game(c.positions, c.priorities, most)
			product, v := 1, 0
			for q := range x.Priority {
				x.Priority[q] &^= 1
			}
			for i, n := range c.counts {
				product *= n + 1
				for range n {
					x.Priority[(v*7)%c.positions] = 2*i + 1
					v++
				}
			}
			if c.positions*product > 1<<20 {
				t.Fatalf("%v: %d", c, product)
			}
			l, e := measure.Measures(x)
			z, f := zielonka.Solve(x)
			if e != api.OK || f != api.OK {
				t.Fatalf("%s: %d, %d", brief(x), e, f)
			}
			if is, e := measure.Small(x, l); !is || e != api.OK {
				t.Fatalf("%s: %s is not small", brief(x), brief(l))
			}
			for v, m := range l {
				if m.Top != (z.Winner[v] == 1) {
					t.Fatalf("%s: %s, %s at %d", brief(x), brief(l), brief(z), v)
				}
			}
		}
	}
}

// P14.2 and P14.3: as many positions and successors as there may be, and rings; what player 1 wins is found long before its measures are raised to the last one
func TestLarge(t *testing.T) {
	g := generator(22)
	for _, c := range [][2]int{{2, 2}, {3, 2}, {60, 64}, {4, 64}} {
		x := g.game(api.MaxPositions, c[0], c[1])
		r, e := measure.Solve(x)
		if e != api.OK {
			t.Fatalf("%v: %d", c, e)
		}
		expectSolution(t, x, r)
	}
	ring := api.Game{Owner: make([]int, api.MaxPositions), Priority: make([]int, api.MaxPositions)}
	for v := range api.MaxPositions {
		ring.Owner[v], ring.Priority[v] = v%2, 1+v%3/2*2
		ring.Next = append(ring.Next, []int{(v + 1) % api.MaxPositions})
	}
	ring.Priority[333] = 3
	r, e := measure.Solve(ring)
	if e != api.OK || slices.Contains(r.Winner, 0) {
		t.Errorf("%s, %d", brief(r), e)
	}
	ring.Priority[777] = 4
	if r, e = measure.Solve(ring); e != api.OK || slices.Contains(r.Winner, 1) {
		t.Errorf("%s, %d", brief(r), e)
	}
	ring.Priority[9999] = 59
	if r, e = measure.Solve(ring); e != api.OK || slices.Contains(r.Winner, 0) {
		t.Errorf("%s, %d", brief(r), e)
	}
}
