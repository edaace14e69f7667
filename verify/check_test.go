package verify_test

import (
	"math"
	"slices"
	"testing"

	"lodesman/api"
	"lodesman/improve"
	"lodesman/measure"
	"lodesman/verify"
	"lodesman/zielonka"
)

// The example of the chapter
func TestExample(t *testing.T) {
	r := api.Region{Winner: []int{1, 1}, Choice: []int{-1, 0}}
	p, e := verify.Check(first(), r)
	if e != api.ErrBroken {
		t.Errorf("%v, %d", p, e)
	}
	expectCounter(t, first(), r, p)
	if w, e := verify.Winner(first(), p); w != 0 || e != api.OK {
		t.Errorf("%v: %d, %d", p, w, e)
	}
	if is, e := verify.Counter(first(), r, verify.Play{Loop: []int{0, 1}}); !is || e != api.OK {
		t.Errorf("%t, %d", is, e)
	}
}

// P16.1, P16.6 and P16.7: all claims about small games, with all their plays; all correct ones agree
func TestCheck(t *testing.T) {
	g := generator(1)
	seen := map[api.Errno]int{}
	left, several := 0, 0
	for range 3000 {
		x := g.game(1+g.below(4), 1+g.below(5), 1+g.below(3))
		before := copied(x)
		var right []api.Region
		for r := range claims(x) {
			saved := doubled(r)
			p, e := verify.Check(x, r)
			if !identical(x, before) || !same(r, saved) {
				t.Fatalf("Check(%v, %v): %v, %v", before, saved, x, r)
			}
			if is := isCorrect(t, x, r); is != (e == api.OK) || !is && e != api.ErrBroken {
				t.Fatalf("Check(%v, %v) = %v, %d", x, r, p, e)
			}
			seen[e]++
			if e == api.ErrBroken {
				expectCounter(t, x, r, p)
				if len(p.Stem) > 0 {
					left++
				}
				continue
			}
			right = append(right, r)
			for q := range plays(x, len(x.Next)+1) {
				if !zero(p) || isCounter(x, r, q) {
					t.Fatalf("Check(%v, %v) = %v, %d: %v", x, r, p, e, q)
				}
			}
			if is, e := verify.Agree(x, r, right[0]); !is || e != api.OK {
				t.Fatalf("%v: %v, %v: %t, %d", x, r, right[0], is, e)
			}
		}
		if len(right) > 1 {
			several++
		}
		if len(right) == 0 {
			t.Fatalf("%v", x)
		}
	}
	if seen[api.OK] < 600 || seen[api.ErrBroken] < 10000 || left < 5000 || several < 50 {
		t.Errorf("%v, %d, %d", seen, left, several)
	}
}

// P16.1: claims about games that are larger, of which some are correct but for one position
func TestCheckLarger(t *testing.T) {
	g := generator(2)
	seen := map[api.Errno]int{}
	for range 3000 {
		x := g.game(1+g.below(30), 1+g.below(10), 1+g.below(4))
		r, e := zielonka.Solve(x)
		if e != api.OK {
			t.Fatal(e)
		}
		v := g.below(len(x.Next))
		if g.below(4) == 0 {
			r = g.claim(x)
		} else if x.Owner[v] == r.Winner[v] && g.below(3) > 0 {
			r.Choice[v] = x.Next[v][g.below(len(x.Next[v]))]
		} else if r.Winner[v] = 1 - r.Winner[v]; r.Winner[v] == x.Owner[v] {
			r.Choice[v] = x.Next[v][0]
		} else {
			r.Choice[v] = -1
		}
		p, e := verify.Check(x, r)
		again, f := verify.Check(copied(x), doubled(r))
		if e != f || !alike(p, again) {
			t.Fatalf("Check(%v, %v) = %v, %d, and %v, %d", x, r, p, e, again, f)
		}
		seen[e]++
		if e == api.ErrBroken {
			expectCounter(t, x, r, p)
			continue
		}
		for range 50 {
			if q := g.play(x, 60); e != api.OK || !zero(p) || isCounter(x, r, q) {
				t.Fatalf("Check(%v, %v) = %v, %d: %v", x, r, p, e, q)
			}
		}
	}
	if seen[api.OK] < 300 || seen[api.ErrBroken] < 1500 {
		t.Errorf("%v", seen)
	}
}

// P16.1 and P13.7: what the solvers return
func TestCheckSolvers(t *testing.T) {
	g := generator(3)
	games := []api.Game{{}, first(), ring(api.MaxPositions)}
	for range 1000 {
		games = append(games, g.game(1+g.below(50), 1+g.below(59), 1+g.below(4)))
	}
	for _, c := range [][2]int{{60, 2}, {60, 3}, {3, 2}, {60, 64}} {
		games = append(games, g.game(api.MaxPositions, c[0], c[1]))
	}
	for _, x := range games {
		var all []api.Region
		for k, solve := range []func(api.Game) (api.Region, api.Errno){zielonka.Solve, measure.Solve, improve.Solve} {
			r, e := solve(x)
			if e == api.ErrFull && k == 1 {
				continue
			}
			if p, f := verify.Check(x, r); e != api.OK || f != api.OK || !zero(p) {
				t.Fatalf("%s: solver %d: %s, %d: %s, %d", brief(x), k, brief(r), e, brief(p), f)
			}
			all = append(all, r)
		}
		for _, r := range all {
			if is, e := verify.Agree(x, r, all[0]); !is || e != api.OK {
				t.Fatalf("%s: %s, %s: %t, %d", brief(x), brief(r), brief(all[0]), is, e)
			}
		}
	}
}

// P16.1: long plays, priorities at both ends, and circles below others
func TestCheckLong(t *testing.T) {
	x := ring(api.MaxPositions)
	claimed := func(w int) api.Region {
		r := api.Region{Winner: slices.Repeat([]int{w}, len(x.Next)), Choice: slices.Repeat([]int{-1}, len(x.Next))}
		for v, next := range x.Next {
			if x.Owner[v] == w {
				r.Choice[v] = next[0]
			}
		}
		return r
	}
	expect := func(w int) {
		t.Helper()
		if p, e := verify.Check(x, claimed(w)); e != api.OK || !zero(p) {
			t.Errorf("%s, %d", brief(p), e)
		}
		p, e := verify.Check(x, claimed(1-w))
		if e != api.ErrBroken {
			t.Fatalf("%s, %d", brief(p), e)
		}
		expectCounter(t, x, claimed(1-w), p)
	}
	expect(0)
	x.Priority[333] = 1
	expect(1)
	x.Priority[19999] = 60
	expect(0)
	x.Priority[19999], x.Priority[0], x.Priority[1] = 59, 58, 57
	expect(1)
	// the circle of the last two positions is below all others
	for v := range x.Next {
		x.Owner[v], x.Priority[v] = 1, 60-2*min(v/2, 29)
		x.Next[v] = []int{max(v-1, 0), min(v+1, api.MaxPositions-1)}
	}
	x.Next[0], x.Next[19999] = []int{1}, []int{19998}
	r := claimed(0)
	if p, e := verify.Check(x, r); e != api.OK {
		t.Errorf("%s, %d", brief(p), e)
	}
	x.Priority[19999], x.Priority[19998] = 1, 1
	p, e := verify.Check(x, r)
	if e != api.ErrBroken || len(p.Stem) != 0 || len(p.Loop) != 2 {
		t.Fatalf("%s, %d", brief(p), e)
	}
	expectCounter(t, x, r, p)
}

// wrong are regions that are no claims about the first game.
func wrong() []api.Region {
	return []api.Region{
		{}, {Winner: []int{0, 0}}, {Choice: []int{1, -1}}, {Winner: []int{0}, Choice: []int{1}}, {Winner: []int{0, 0, 0}, Choice: []int{1, -1, -1}}, {Winner: []int{0, 0}, Choice: []int{1, -1, -1}}, {Winner: make([]int, 1<<20), Choice: make([]int, 1<<20)},
		{Winner: []int{2, 0}, Choice: []int{-1, -1}}, {Winner: []int{-1, -1}, Choice: []int{-1, -1}}, {Winner: []int{0, math.MaxInt}, Choice: []int{1, -1}},
		{Winner: []int{0, 0}, Choice: []int{1, 1}}, {Winner: []int{0, 0}, Choice: []int{-1, -1}}, {Winner: []int{0, 0}, Choice: []int{2, -1}}, {Winner: []int{0, 1}, Choice: []int{1, -1}}, {Winner: []int{1, 1}, Choice: []int{0, 0}}, {Winner: []int{0, 0}, Choice: []int{1, -2}}, {Winner: []int{1, 1}, Choice: []int{-1, math.MinInt}},
	}
}

// P16.1, P16.3 and P16.5: what is no claim
func TestNoClaim(t *testing.T) {
	right := api.Region{Winner: []int{0, 0}, Choice: []int{1, -1}}
	for _, r := range wrong() {
		if p, e := verify.Check(first(), r); e != api.ErrForm || !zero(p) {
			t.Errorf("Check(%s) = %v, %d", brief(r), p, e)
		}
		if is, e := verify.Counter(first(), r, verify.Play{Loop: []int{0}}); e != api.ErrForm || is {
			t.Errorf("Counter(%s) = %t, %d", brief(r), is, e)
		}
		is, e := verify.Agree(first(), r, right)
		si, f := verify.Agree(first(), right, r)
		if e != api.ErrForm || f != api.ErrForm || is || si {
			t.Errorf("Agree(%s) = %t, %d, %t, %d", brief(r), is, e, si, f)
		}
	}
	if p, e := verify.Check(first(), right); e != api.OK || !zero(p) {
		t.Errorf("%v, %d", p, e)
	}
	if p, e := verify.Check(api.Game{}, api.Region{}); e != api.OK || !zero(p) {
		t.Errorf("%v, %d", p, e)
	}
	if p, e := verify.Check(api.Game{}, right); e != api.ErrForm || !zero(p) {
		t.Errorf("%v, %d", p, e)
	}
}

// P16.5: the winners alone count, whether the claims are correct or not
func TestAgree(t *testing.T) {
	g := generator(4)
	seen := map[bool]int{}
	for range 2000 {
		x := g.game(1+g.below(4), 3, 3)
		before := copied(x)
		a, b := g.claim(x), g.claim(x)
		c, d := doubled(a), doubled(b)
		is, e := verify.Agree(x, a, b)
		if e != api.OK || is != slices.Equal(a.Winner, b.Winner) || !identical(x, before) || !same(a, c) || !same(b, d) {
			t.Fatalf("Agree(%v, %v, %v) = %t, %d", x, a, b, is, e)
		}
		seen[is]++
	}
	if is, e := verify.Agree(api.Game{}, api.Region{}, api.Region{}); !is || e != api.OK || seen[true] < 200 || seen[false] < 200 {
		t.Errorf("%t, %d, %v", is, e, seen)
	}
	if is, e := verify.Agree(first(), api.Region{Winner: []int{0, 0}, Choice: []int{1, -1}}, api.Region{Winner: []int{0, 0}, Choice: []int{0, -1}}); !is || e != api.OK {
		t.Errorf("%t, %d", is, e)
	}
}

// All functions: games that are not valid, before every other error
func TestInvalid(t *testing.T) {
	for _, g := range invalid() {
		p, e := verify.Check(g, api.Region{})
		w, f := verify.Winner(g, verify.Play{})
		if e != api.ErrArg || f != api.ErrArg || !zero(p) || w != 0 {
			t.Errorf("%s: %d, %d", brief(g), e, f)
		}
		is, e := verify.Counter(g, api.Region{}, verify.Play{})
		p, f = verify.Meet(g, nil, []int{9}, -1)
		if e != api.ErrArg || f != api.ErrArg || is || !zero(p) {
			t.Errorf("%s: %d, %d", brief(g), e, f)
		}
		if is, e := verify.Agree(g, api.Region{}, api.Region{}); e != api.ErrArg || is {
			t.Errorf("%s: %t, %d", brief(g), is, e)
		}
	}
}
