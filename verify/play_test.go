package verify_test

import (
	"math"
	"slices"
	"testing"

	"lodesman/api"
	"lodesman/game"
	"lodesman/verify"
	"lodesman/zielonka"
)

// P16.2 and P16.3: all plays of small games, and claims about these
func TestPlays(t *testing.T) {
	g := generator(11)
	won := [2]int{}
	seen := map[bool]int{}
	for range 300 {
		x := g.game(1+g.below(4), 1+g.below(5), 1+g.below(3))
		before := copied(x)
		r := g.claim(x)
		saved := doubled(r)
		for p := range plays(x, 5) {
			stem, loop := slices.Clone(p.Stem), slices.Clone(p.Loop)
			w, e := verify.Winner(x, p)
			most := 0
			for _, v := range p.Loop {
				most = max(most, x.Priority[v])
			}
			if e != api.OK || w != most%2 {
				t.Fatalf("Winner(%v, %v) = %d, %d", x, p, w, e)
			}
			won[w]++
			is, e := verify.Counter(x, r, p)
			if e != api.OK || is != isCounter(x, r, p) {
				t.Fatalf("Counter(%v, %v, %v) = %t, %d", x, r, p, is, e)
			}
			seen[is]++
			if !identical(x, before) || !same(r, saved) || !slices.Equal(p.Stem, stem) || !slices.Equal(p.Loop, loop) {
				t.Fatalf("%v, %v, %v", x, r, p)
			}
		}
	}
	if won[0] < 5000 || won[1] < 5000 || seen[true] < 5000 || seen[false] < 5000 {
		t.Errorf("%v, %v", won, seen)
	}
}

// P16.3: what a counterplay has to do, and where
func TestCounterCases(t *testing.T) {
	x := api.Game{Owner: []int{0, 1, 0, 1}, Priority: []int{2, 2, 1, 0}, Next: [][]int{{0, 1}, {0, 2}, {1, 3}, {2, 3}}}
	most := api.Region{Winner: []int{0, 0, 0, 1}, Choice: []int{1, -1, 1, 3}}
	half := api.Region{Winner: []int{0, 0, 1, 1}, Choice: []int{1, -1, -1, 3}}
	for _, c := range []struct {
		r          api.Region
		stem, loop []int
		want       bool
		why        string
	}{
		{most, nil, []int{1, 2}, false, "player 0 wins it"},
		{most, []int{0, 1, 2}, []int{1, 0}, false, "player 0 wins it"},
		{most, []int{1}, []int{2, 3}, false, "player 0 does not follow the claim at 2"},
		{most, []int{1, 2}, []int{3}, false, "nor if that is the end of the stem"},
		{most, nil, []int{0}, false, "player 0 does not follow the claim at 0"},
		{most, nil, []int{3}, true, "player 1 follows the claim and loses"},
		{most, []int{3, 3}, []int{3}, true, "player 1 follows the claim and loses"},
		{most, nil, []int{3, 2}, false, "player 1 does not follow the claim"},
		{most, []int{3, 3}, []int{2, 3}, false, "player 1 does not follow the claim later"},
		{half, nil, []int{1, 2}, true, "2 is left as player 0 likes"},
		{half, []int{1}, []int{2, 3}, true, "3 is left as player 1 likes"},
		{half, []int{1, 2}, []int{1, 0}, true, "player 0 follows the claim at 0, behind 2 too"},
		{half, []int{1, 2, 1}, []int{0}, false, "player 0 does not follow the claim at 0, behind 2"},
		{half, []int{0, 1, 2}, []int{3}, true, "player 0 wins it, but what it is claimed to win is left"},
		{half, nil, []int{2, 1}, true, "player 0 leaves what player 1 is claimed to win"},
		{half, []int{2}, []int{1, 0}, true, "it leaves it for ever"},
		{half, []int{2}, []int{1, 0, 0}, true, "0 is left as player 0 likes, because 2 comes first"},
		{half, []int{2}, []int{3}, true, "player 1 follows the claim and loses"},
		{half, []int{2}, []int{3, 2}, false, "player 1 does not follow the claim at 3"},
	} {
		if is, e := verify.Counter(x, c.r, verify.Play{Stem: c.stem, Loop: c.loop}); is != c.want || e != api.OK {
			t.Errorf("%v, %v: %t, %d: %s", c.stem, c.loop, is, e, c.why)
		}
	}
}

// P16.2 and P16.3: what is no play
func TestNoPlay(t *testing.T) {
	x := api.Game{Owner: []int{0, 1, 0}, Priority: []int{1, 2, 4}, Next: [][]int{{0, 1}, {2}, {0}}}
	r := api.Region{Winner: []int{0, 0, 0}, Choice: []int{1, -1, 0}}
	for _, c := range []struct {
		stem, loop []int
		want       api.Errno
	}{
		{nil, []int{0, 1, 2}, api.OK}, {[]int{}, []int{0}, api.OK}, {[]int{1, 2}, []int{0}, api.OK}, {[]int{0, 0, 1, 2, 0}, []int{0, 1, 2, 0, 0}, api.OK}, {[]int{2, 0, 1}, []int{2, 0, 1}, api.OK},
		{nil, nil, api.ErrForm}, {[]int{0}, nil, api.ErrForm}, {[]int{0}, []int{}, api.ErrForm},
		{nil, []int{1}, api.ErrForm}, {nil, []int{0, 1}, api.ErrForm}, {nil, []int{0, 2}, api.ErrForm}, {nil, []int{1, 0}, api.ErrForm}, {[]int{1}, []int{0}, api.ErrForm}, {[]int{1, 0}, []int{0}, api.ErrForm}, {[]int{0, 2}, []int{0}, api.ErrForm},
		{nil, []int{3}, api.ErrForm}, {nil, []int{-1}, api.ErrForm}, {[]int{-1}, []int{0}, api.ErrForm}, {[]int{3}, []int{0}, api.ErrForm}, {[]int{0, math.MaxInt}, []int{0}, api.ErrForm}, {nil, []int{0, math.MinInt}, api.ErrForm}, {nil, []int{0, 0, 3}, api.ErrForm},
	} {
		p := verify.Play{Stem: c.stem, Loop: c.loop}
		if w, e := verify.Winner(x, p); e != c.want || e != api.OK && w != 0 {
			t.Errorf("Winner(%v) = %d, %d", p, w, e)
		}
		if is, e := verify.Counter(x, r, p); e != c.want || e != api.OK && is {
			t.Errorf("Counter(%v) = %t, %d", p, is, e)
		}
	}
	for _, p := range []verify.Play{{}, {Loop: []int{0}}, {Loop: []int{-1}}} {
		if w, e := verify.Winner(api.Game{}, p); e != api.ErrForm || w != 0 {
			t.Errorf("Winner(%v) = %d, %d", p, w, e)
		}
	}
	// plays of any length, by their loops
	long := verify.Play{Stem: make([]int, 1<<20), Loop: make([]int, 1<<20)}
	if w, e := verify.Winner(x, long); e != api.OK || w != 1 {
		t.Errorf("%d, %d", w, e)
	}
	long.Loop = append(long.Loop, 1, 2)
	if w, e := verify.Winner(x, long); e != api.OK || w != 0 {
		t.Errorf("%d, %d", w, e)
	}
	long.Stem = append(long.Stem, 1)
	if w, e := verify.Winner(x, long); e != api.ErrForm || w != 0 {
		t.Errorf("%d, %d", w, e)
	}
}

// P16.4: step by step
func TestMeet(t *testing.T) {
	g := generator(12)
	long := 0
	for range 3000 {
		x := g.game(1+g.below(12), 61, 4)
		before := copied(x)
		a, b := g.strategy(x, 0), g.strategy(x, 1)
		c, d := slices.Clone(a), slices.Clone(b)
		v := g.below(len(x.Next))
		p, e := verify.Meet(x, a, b, v)
		if e != api.OK || !identical(x, before) || !slices.Equal(a, c) || !slices.Equal(b, d) {
			t.Fatalf("Meet(%v, %v, %v, %d) = %v, %d", before, c, d, v, p, e)
		}
		var path []int
		at := v
		for !slices.Contains(path, at) {
			path = append(path, at)
			at = max(a[at], b[at])
		}
		k := slices.Index(path, at)
		if !slices.Equal(p.Stem, path[:k]) || !slices.Equal(p.Loop, path[k:]) {
			t.Fatalf("Meet(%v, %v, %v, %d) = %v, want %v from %d on", x, a, b, v, p, path, k)
		}
		long += len(p.Stem) * len(p.Loop)
	}
	if long < 3000 {
		t.Errorf("%d", long)
	}
}

// P16.4: the errors in their order, long plays, and no shared memory
func TestMeetCases(t *testing.T) {
	x := first()
	a, b := []int{0, -1}, []int{-1, 0}
	for _, c := range []struct {
		a, b []int
		v    int
		want api.Errno
	}{
		{a, b, 0, api.OK}, {a, b, 1, api.OK},
		{nil, b, 0, api.ErrForm}, {a, nil, 0, api.ErrForm}, {b, a, 0, api.ErrForm}, {a, a, 5, api.ErrForm}, {b, b, -1, api.ErrForm}, {[]int{0}, b, 0, api.ErrForm}, {[]int{0, -1, -1}, b, 0, api.ErrForm}, {[]int{0, 0}, b, 0, api.ErrForm}, {[]int{2, -1}, b, 0, api.ErrForm}, {[]int{-1, -1}, b, 0, api.ErrForm}, {a, []int{0, 0}, 0, api.ErrForm}, {a, []int{-1, -1}, 0, api.ErrForm}, {a, []int{-1, 2}, 0, api.ErrForm}, {a, []int{-2, 0}, 9, api.ErrForm},
		{a, b, 2, api.ErrRange}, {a, b, -1, api.ErrRange}, {a, b, math.MinInt, api.ErrRange}, {a, b, math.MaxInt, api.ErrRange},
	} {
		if p, e := verify.Meet(x, c.a, c.b, c.v); e != c.want || e != api.OK && !zero(p) {
			t.Errorf("Meet(%v, %v, %d) = %v, %d", c.a, c.b, c.v, p, e)
		}
	}
	if p, e := verify.Meet(api.Game{}, nil, nil, 0); e != api.ErrRange || !zero(p) {
		t.Errorf("%v, %d", p, e)
	}
	if p, e := verify.Meet(api.Game{}, a, nil, 0); e != api.ErrForm || !zero(p) {
		t.Errorf("%v, %d", p, e)
	}
	p, _ := verify.Meet(x, a, b, 1)
	if p.Stem = append(p.Stem, 9); !slices.Equal(p.Loop, []int{0}) {
		t.Errorf("%v", p)
	}
	p.Stem[0], p.Loop[0] = 9, 9
	if p, _ = verify.Meet(x, a, b, 1); !slices.Equal(p.Stem, []int{1}) || !slices.Equal(p.Loop, []int{0}) || a[0] != 0 || b[1] != 0 {
		t.Errorf("%v", p)
	}
	x = ring(api.MaxPositions)
	x.Next[19999] = []int{10000}
	var steps []int
	for _, next := range x.Next {
		steps = append(steps, next[0])
	}
	if p, e := verify.Meet(x, steps, slices.Repeat([]int{-1}, len(steps)), 3); e != api.OK || len(p.Stem) != 9997 || len(p.Loop) != 10000 || p.Loop[0] != 10000 {
		t.Errorf("%s, %d", brief(p), e)
	}
}

// P16.8: strategies that follow a correct claim where it is theirs, against any others
func TestStrategies(t *testing.T) {
	g := generator(13)
	won := [2]int{}
	for range 2000 {
		x := g.game(1+g.below(20), 1+g.below(10), 1+g.below(4))
		r, e := zielonka.Solve(x)
		if _, f := verify.Check(x, r); e != api.OK || f != api.OK {
			t.Fatalf("%v: %v, %d, %d", x, r, e, f)
		}
		for range 5 {
			l := [2][]int{g.strategy(x, 0), g.strategy(x, 1)}
			follower := g.below(2)
			for v, c := range r.Choice {
				if c != -1 && x.Owner[v] == follower {
					l[follower][v] = c
				}
			}
			for v, w := range r.Winner {
				p, e := verify.Meet(x, l[0], l[1], v)
				winner, f := verify.Winner(x, p)
				if e != api.OK || f != api.OK || w == follower && winner != w {
					t.Fatalf("%v, %v: %v from %d: %v, %d", x, r, l, v, p, winner)
				}
				if w == follower {
					won[w]++
				}
			}
		}
	}
	if won[0] < 10000 || won[1] < 10000 {
		t.Errorf("%v", won)
	}
}

// P16.2: the winner is that of layer 12
func TestWinnerOfPlay(t *testing.T) {
	g := generator(14)
	for range 2000 {
		x := g.game(1+g.below(12), 61, 4)
		choices := g.strategy(x, 0)
		for v, w := range g.strategy(x, 1) {
			choices[v] = max(choices[v], w)
		}
		stem, loop, winner, e := game.Play(x, choices, g.below(len(choices)))
		w, f := verify.Winner(x, verify.Play{Stem: stem, Loop: loop})
		if e != api.OK || f != api.OK || w != winner {
			t.Fatalf("%v, %v: %d, %d, %d, %d", x, choices, winner, w, e, f)
		}
	}
}
