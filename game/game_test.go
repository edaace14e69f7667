package game_test

import (
	"slices"
	"testing"

	"lodesman/api"
	"lodesman/game"
)

// P12.4 and P12.9: owners and priorities; the plays are won by the other player
func TestDual(t *testing.T) {
	g := generator(2)
	for range 500 {
		x := g.game(1+g.below(8), 60, 4)
		before := copied(x)
		d, e := game.Dual(x)
		want := copied(x)
		for v := range want.Owner {
			want.Owner[v], want.Priority[v] = 1-want.Owner[v], want.Priority[v]+1
		}
		if e != api.OK || !identical(d, want) || !identical(x, before) {
			t.Fatalf("Dual(%v) = %v, %d", x, d, e)
		}
		choices := g.choices(x)
		for v := range choices {
			_, _, first, _ := game.Play(x, choices, v)
			_, _, second, e := game.Play(d, choices, v)
			if first+second != 1 || e != api.OK {
				t.Fatalf("%v, %v from %d: %d and %d", x, choices, v, first, second)
			}
		}
	}
}

// P12.4: no positions, the greatest priority, and memory
func TestDualCases(t *testing.T) {
	if d, e := game.Dual(api.Game{}); e != api.OK || !zero(d) {
		t.Errorf("%v, %d", d, e)
	}
	for v := range 2 {
		for priority := 58; priority <= 60; priority++ {
			x := changed(func(g *api.Game) { g.Priority[v] = priority })
			d, e := game.Dual(x)
			if priority == 60 && (e != api.ErrFull || !zero(d)) || priority < 60 && (e != api.OK || d.Priority[v] != priority+1) {
				t.Errorf("Dual(%v) = %v, %d", x, d, e)
			}
		}
	}
	x := example()
	d, _ := game.Dual(x)
	again, _ := game.Dual(x)
	spoil(d)
	if !identical(x, example()) || again.Owner[0] != 1 || again.Next[0][1] != 1 {
		t.Errorf("%v, %v", x, again)
	}
}

// restricted is Sub by the definition, or false if some position has no successors.
func restricted(x api.Game, keep []bool) (h api.Game, of []int, ok bool) {
	for v := range keep {
		if !keep[v] {
			continue
		}
		var next []int
		for _, w := range x.Next[v] {
			if !keep[w] {
				continue
			}
			before := 0
			for u := range w {
				if keep[u] {
					before++
				}
			}
			next = append(next, before)
		}
		if len(next) == 0 {
			return api.Game{}, nil, false
		}
		h.Owner, h.Priority, h.Next, of = append(h.Owner, x.Owner[v]), append(h.Priority, x.Priority[v]), append(h.Next, next), append(of, v)
	}
	return h, of, true
}

// P12.5: any sets of positions
func TestSub(t *testing.T) {
	g := generator(3)
	lost := 0
	for range 2000 {
		x := g.game(1+g.below(10), 61, 5)
		before := copied(x)
		keep := g.set(len(x.Next), 1+g.below(3))
		if g.below(2) == 0 {
			for v := range keep {
				keep[v] = !keep[v]
			}
		}
		set := slices.Clone(keep)
		h, of, e := game.Sub(x, keep)
		want, list, ok := restricted(x, keep)
		if !ok {
			lost++
			if e != api.ErrNone || !zero(h) || len(of) != 0 {
				t.Fatalf("Sub(%v, %v) = %v, %v, %d", x, keep, h, of, e)
			}
			continue
		}
		if e != api.OK || !game.Valid(h) || !identical(h, want) || !slices.Equal(of, list) || !identical(x, before) || !slices.Equal(set, keep) {
			t.Fatalf("Sub(%v, %v) = %v, %v, %d", x, keep, h, of, e)
		}
	}
	if lost < 300 || lost > 1700 {
		t.Errorf("%d", lost)
	}
}

// P12.5: no positions, all of them, lists of other lengths, and memory
func TestSubCases(t *testing.T) {
	x := example()
	for _, c := range []struct {
		g    api.Game
		keep []bool
		size int
		want api.Errno
	}{
		{api.Game{}, nil, 0, api.OK}, {x, []bool{false, false}, 0, api.OK}, {x, []bool{true, true}, 2, api.OK}, {x, []bool{true, false}, 1, api.OK}, {x, []bool{false, true}, 0, api.ErrNone},
		{x, nil, 0, api.ErrDim}, {x, []bool{true}, 0, api.ErrDim}, {x, []bool{false, true, true}, 0, api.ErrDim}, {api.Game{}, []bool{false}, 0, api.ErrDim},
	} {
		h, of, e := game.Sub(c.g, c.keep)
		if e != c.want || len(of) != c.size || len(h.Next) != c.size || !game.Valid(h) {
			t.Errorf("Sub(%v, %v) = %v, %v, %d", c.g, c.keep, h, of, e)
		}
	}
	keep := []bool{true, true}
	h, of, _ := game.Sub(x, keep)
	again, more, _ := game.Sub(x, keep)
	spoil(h)
	of[0], of[1] = 7, 7
	if !identical(x, example()) || !identical(again, x) || !slices.Equal(more, []int{0, 1}) {
		t.Errorf("%v, %v", x, again)
	}
}

// P12.7: any choices that are valid for a player; those of the other one do not matter
func TestTrade(t *testing.T) {
	g := generator(4)
	for range 1000 {
		x := g.game(1+g.below(9), 61, 5)
		before := copied(x)
		p := g.below(2)
		choices := g.choices(x)
		want := copied(x)
		for v := range choices {
			switch {
			case x.Owner[v] != p:
				choices[v] = g.below(30) - 10
			case g.below(3) == 0:
				choices[v] = -1
			default:
				want.Next[v] = []int{choices[v]}
			}
		}
		list := slices.Clone(choices)
		y, e := game.Trade(x, choices, p)
		if e != api.OK || !identical(y, want) || !identical(x, before) || !slices.Equal(list, choices) {
			t.Fatalf("Trade(%v, %v, %d) = %v, %d", x, choices, p, y, e)
		}
	}
}

// P12.7: the errors in their order, and memory
func TestTradeCases(t *testing.T) {
	x := example()
	for _, c := range []struct {
		choices []int
		p       int
		want    api.Errno
	}{
		{[]int{1, 0}, 0, api.OK}, {[]int{0, 5}, 0, api.OK}, {[]int{-7, 0}, 1, api.OK}, {[]int{-1, -1}, 0, api.OK}, {[]int{-1, -1}, 1, api.OK},
		{[]int{1, 0}, 2, api.ErrRange}, {[]int{1, 0}, -1, api.ErrRange}, {nil, 2, api.ErrRange}, {nil, 0, api.ErrDim}, {[]int{9}, 0, api.ErrDim}, {[]int{9, 9, 9}, 1, api.ErrDim},
		{[]int{2, 0}, 0, api.ErrRange}, {[]int{-2, 0}, 0, api.ErrRange}, {[]int{0, 1}, 1, api.ErrRange}, {[]int{0, 1 << 62}, 1, api.ErrRange}, {[]int{-1 << 63, 0}, 0, api.ErrRange},
	} {
		if y, e := game.Trade(x, c.choices, c.p); e != c.want || e != api.OK && !zero(y) || e == api.OK && !game.Valid(y) {
			t.Errorf("Trade(%v, %d) = %v, %d", c.choices, c.p, y, e)
		}
	}
	if y, e := game.Trade(api.Game{}, nil, 1); e != api.OK || !zero(y) {
		t.Errorf("%v, %d", y, e)
	}
	choices := []int{1, -1}
	y, _ := game.Trade(x, choices, 0)
	again, _ := game.Trade(x, choices, 0)
	spoil(y)
	if !identical(x, example()) || !slices.Equal(again.Next[0], []int{1}) || !slices.Equal(again.Next[1], []int{0}) {
		t.Errorf("%v, %v", x, again)
	}
}
