package truth_test

import (
	"math"
	"testing"

	"lodesman/api"
	"lodesman/truth"
	"lodesman/word"
)

// P3.4: the order of the words, the limits of their letters and of the propositions
func TestDiffer(t *testing.T) {
	for _, c := range []struct {
		f, g    string
		n, most int
		want    string // no word, if it is empty
	}{
		{"F p", "p", 1, 2, "( 0 1 )"},
		{"F p", "p", 1, 1, ""},
		{"p", "F p", 2, 4, "( 0 1 )"},
		{"true", "false", 0, 1, "( 0 )"},
		{"true", "true", 0, 4, ""},
		{"true", "F true", 0, 4, ""},
		{"p", "false", 1, 1, "( 1 )"},
		{"p", "true", 1, 1, "( 0 )"},
		{"p", "q", 2, 4, "( 1 )"},
		{"q", "p", 3, 1, "( 1 )"},
		{"q", "false", 2, 1, "( 2 )"},
		{"r", "false", 3, 1, "( 4 )"},
		{"p & q & r", "false", 3, 4, "( 7 )"},
		{"F p & F !p", "false", 1, 2, "( 0 1 )"},
		{"p & F !p", "false", 1, 2, "( 1 0 )"},
		{"p & X G !p", "false", 1, 2, "1 ( 0 )"},
		{"p & X G !p", "false", 1, 1, ""},
		{"!p & X p & X X !p & X X X !p", "false", 1, 3, "( 0 1 0 )"},
		{"p & X !p & X X G p", "false", 1, 3, "1 0 ( 1 )"},
		{"!p & X G (p <-> X !p)", "false", 1, 4, "( 0 1 )"},
		{"p & X (p & G (p <-> X !p))", "false", 1, 4, "1 ( 1 0 )"},
		{"p & X (p & G (p <-> X !p))", "false", 1, 2, ""},
		{"p & X (p & X (!p & X G p))", "false", 1, 4, "1 1 0 ( 1 )"},
		{"p & X (p & X (!p & X G p))", "false", 1, 3, ""},
		{"p & X (p & X (p & X (!p & X G p)))", "false", 1, 4, ""},
		{"G F p", "!F G !p", 1, 4, ""},
		{"G F p", "F G p", 1, 4, "( 0 1 )"},
		{"G F p", "F p", 1, 4, "1 ( 0 )"},
		{"G (p -> X q)", "G (p -> F q)", 2, 4, "( 0 3 )"},
		{"p U q", "p W q", 2, 1, "( 1 )"},
		{"p U q", "F q", 2, 2, "( 0 2 )"},
		{"X p", "X q", 3, 4, "( 1 )"},
		{"X p", "p", 3, 4, "( 0 1 )"},
	} {
		w, e := truth.Differ(read(t, c.f), read(t, c.g), c.n, c.most)
		if c.want == "" {
			if e != api.ErrNone || len(w.Stem) != 0 || len(w.Loop) != 0 {
				t.Errorf("Differ(%s, %s, %d, %d) = %v, %d", c.f, c.g, c.n, c.most, w, e)
			}
			continue
		}
		if s, _ := word.Print(w); s != c.want || e != api.OK {
			t.Errorf("Differ(%s, %s, %d, %d) = %s, %d", c.f, c.g, c.n, c.most, s, e)
		}
	}
}

// first is the result of Differ, by its definition.
func first(f, g api.Formula, n, most int) (api.Word, bool) {
	for _, w := range smallWords(n, most) {
		normal, _ := word.Normal(w)
		if identical(w, normal) && holds(f, w, 0) != holds(g, w, 0) {
			return w, true
		}
	}
	return api.Word{}, false
}

// P3.4: many pairs of formulas, by the definition
func TestDifferDefinition(t *testing.T) {
	g := generator(5)
	for i := range 300 {
		f, h := read(t, g.text(3+i%5)), read(t, g.text(3+i%4))
		n, most := 3, 1+i%3
		want, found := first(f, h, n, most)
		w, e := truth.Differ(f, h, n, most)
		if found != (e == api.OK) || !found && e != api.ErrNone || !identical(w, want) {
			t.Fatalf("Differ(%v, %v, %d, %d) = %v, %d, but not %v", f, h, n, most, w, e, want)
		}
	}
	list := texts(3)
	for i, text := range list {
		f, h := read(t, text), read(t, list[(i*37+11)%len(list)])
		for most := 1; most <= 4; most++ {
			want, found := first(f, h, 2, most)
			w, e := truth.Differ(f, h, 2, most)
			if found != (e == api.OK) || !found && e != api.ErrNone || !identical(w, want) {
				t.Fatalf("Differ(%v, %v, 2, %d) = %v, %d, but not %v", f, h, most, w, e, want)
			}
		}
	}
}

// P3.4: invalid formulas, and numbers outside their ranges
func TestDifferErrors(t *testing.T) {
	expect := func(f, g api.Formula, n, most int, want api.Errno) {
		t.Helper()
		if w, e := truth.Differ(f, g, n, most); e != want || len(w.Stem) != 0 || len(w.Loop) != 0 {
			t.Errorf("Differ with %d, %d = %v, %d", n, most, w, e)
		}
	}
	f := prop(0)
	for _, bad := range badFormulas() {
		for _, n := range []int{-1, 1, 3, 4, math.MaxInt} {
			expect(bad, f, n, 2, api.ErrArg)
			expect(f, bad, n, 2, api.ErrArg)
			expect(bad, bad, n, 0, api.ErrArg)
		}
	}
	for _, n := range []int{-1, 4, 6, 7, 64, math.MinInt, math.MaxInt} {
		expect(node(api.True), node(api.False), n, 2, api.ErrRange)
	}
	for _, most := range []int{0, -1, 5, 200, math.MinInt, math.MaxInt} {
		expect(f, f, 1, most, api.ErrRange)
		expect(node(api.True), node(api.False), 0, most, api.ErrRange)
	}
	for i := range api.MaxProps {
		for n := range min(i+1, 4) {
			expect(prop(i), node(api.True), n, 1, api.ErrRange)
			expect(node(api.True), prop(i), n, 1, api.ErrRange)
			expect(prop(i), prop(i), n, 1, api.ErrRange)
		}
	}
}

// Rule 6: the word is memory of its own.
func TestDifferEffects(t *testing.T) {
	f, g := read(t, "p & X (p & X (!p & X G p))"), read(t, "false")
	w, _ := truth.Differ(f, g, 1, 4)
	w.Stem = append(w.Stem, 63)
	for i := range w.Stem {
		w.Stem[i] = 63
	}
	if w.Loop[0] != 1 {
		t.Errorf("Stem and Loop share memory: %v", w)
	}
	if v, e := truth.Differ(f, g, 1, 4); e != api.OK || !identical(v, line(t, "1 1 0 ( 1 )")) {
		t.Errorf("Differ = %v, %d", v, e)
	}
}
