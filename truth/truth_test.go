package truth_test

import (
	"math"
	"slices"
	"testing"

	"lodesman/api"
	"lodesman/ltl"
	"lodesman/truth"
	"lodesman/word"
)

// P3.1: each operator, at positions of the Stem, of the Loop, and behind them
func TestHolds(t *testing.T) {
	for _, c := range []struct {
		text, word string
		k          int
		want       bool
	}{
		{"true", "( 0 )", 0, true}, {"false", "( 0 )", 0, false},
		{"p", "1 ( 0 )", 0, true}, {"p", "1 ( 0 )", 1, false}, {"q", "1 ( 2 3 )", 0, false}, {"q", "1 ( 2 3 )", 1, true}, {"r", "( 3 4 )", 1, true}, {"r", "( 3 4 )", 2, false},
		{"!p", "1 ( 0 )", 0, false}, {"!p", "1 ( 0 )", 7, true},
		{"p & q", "1 2 ( 3 )", 0, false}, {"p & q", "1 2 ( 3 )", 1, false}, {"p & q", "1 2 ( 3 )", 2, true},
		{"p | q", "0 1 2 ( 3 )", 0, false}, {"p | q", "0 1 2 ( 3 )", 1, true}, {"p | q", "0 1 2 ( 3 )", 2, true},
		{"p -> q", "0 1 2 ( 3 )", 0, true}, {"p -> q", "0 1 2 ( 3 )", 1, false}, {"p -> q", "0 1 2 ( 3 )", 2, true}, {"p -> q", "0 1 2 ( 3 )", 3, true},
		{"p <-> q", "0 1 2 ( 3 )", 0, true}, {"p <-> q", "0 1 2 ( 3 )", 1, false}, {"p <-> q", "0 1 2 ( 3 )", 2, false}, {"p <-> q", "0 1 2 ( 3 )", 3, true},
		{"X p", "0 ( 1 0 )", 0, true}, {"X p", "0 ( 1 0 )", 1, false}, {"X p", "0 ( 1 0 )", 2, true}, {"X X p", "( 1 0 0 )", 1, true}, {"X p", "( 1 )", 0, true},
		{"F p", "1 0 ( 0 )", 0, true}, {"F p", "1 0 ( 0 )", 1, false}, {"F p", "0 ( 1 0 0 )", 3, true}, {"F p", "( 0 )", 0, false},
		{"G p", "0 ( 1 )", 0, false}, {"G p", "0 ( 1 )", 1, true}, {"G p", "( 0 1 1 )", 1, false}, {"G p", "1 ( 1 )", 0, true},
		{"p U q", "1 1 ( 2 0 )", 0, true}, {"p U q", "1 0 ( 2 )", 0, false}, {"p U q", "( 1 )", 0, false}, {"p U q", "( 2 1 1 )", 1, true}, {"p U q", "( 2 1 0 )", 1, false}, {"p U q", "( 2 )", 5, true},
		{"p R q", "2 2 ( 3 0 )", 0, true}, {"p R q", "2 2 ( 1 )", 0, false}, {"p R q", "( 2 )", 0, true}, {"p R q", "( 1 )", 0, false}, {"p R q", "( 3 2 2 )", 1, true}, {"p R q", "( 0 2 2 )", 1, false}, {"p R q", "3 ( 0 )", 0, true},
		{"p W q", "( 1 )", 0, true}, {"p W q", "1 ( 2 0 )", 0, true}, {"p W q", "1 ( 0 )", 0, false}, {"p W q", "( 2 1 1 )", 1, true}, {"p W q", "( 0 1 1 )", 1, false}, {"p W q", "( 2 0 )", 0, true},
		{"G F p", "1 ( 0 1 )", 0, true}, {"F G p", "1 ( 0 1 )", 0, false}, {"p U X p", "1 ( 0 1 )", 1, true},
		{"G F p", "1 1 ( 0 )", 0, false}, {"F G p", "0 0 ( 1 )", 0, true},
		{"X p", "1 ( 0 1 )", 1001, true}, {"X p", "1 ( 0 1 )", 1000, false}, {"p <-> X !p", "1 ( 0 1 )", 1000000, true},
		{"p", "( 0 1 )", math.MaxInt, true}, {"p", "( 0 1 )", math.MaxInt - 1, false}, {"X p", "0 0 ( 1 0 )", math.MaxInt, true},
	} {
		if is, e := truth.Holds(read(t, c.text), line(t, c.word), c.k); is != c.want || e != api.OK {
			t.Errorf("%s of %s at %d: %t, %d", c.text, c.word, c.k, is, e)
		}
	}
}

// P3.1, P3.2, P3.3: all small formulas and words, by the definition
func TestDefinition(t *testing.T) {
	words := smallWords(2, 3)
	for _, text := range texts(3) {
		f := read(t, text)
		for _, w := range words {
			compare(t, f, w)
		}
	}
}

// P3.1, P3.2, P3.3: large formulas and long words
func TestDefinitionLarge(t *testing.T) {
	g := generator(1)
	for i := range 400 {
		compare(t, read(t, g.text(4+i%6)), g.word(i%4, 1+i%5))
	}
}

// compare holds the results of all three functions against the definition.
func compare(t *testing.T, f api.Formula, w api.Word) {
	t.Helper()
	size := len(w.Stem) + len(w.Loop)
	for k := range size + 3 {
		if is, e := truth.Holds(f, w, k); is != holds(f, w, k) || e != api.OK {
			t.Fatalf("Holds(%v, %v, %d) = %t, %d", f, w, k, is, e)
		}
	}
	if is, e := truth.Model(f, w); is != holds(f, w, 0) || e != api.OK {
		t.Fatalf("Model(%v, %v) = %t, %d", f, w, is, e)
	}
	subs, _ := ltl.Subs(f)
	table, e := truth.Table(f, w)
	if e != api.OK || len(table) != len(subs) {
		t.Fatalf("Table(%v, %v) = %v, %d", f, w, table, e)
	}
	for i, row := range table {
		if len(row) != size {
			t.Fatalf("Table(%v, %v) = %v", f, w, table)
		}
		for k, is := range row {
			if is != holds(subs[i], w, k) {
				t.Fatalf("Table(%v, %v) has %t for %v at %d", f, w, is, subs[i], k)
			}
		}
	}
}

// P3.2: example 1 of the chapter, and the last proposition
func TestModel(t *testing.T) {
	w := line(t, "1 ( 0 1 )")
	for text, want := range map[string]bool{"G F p": true, "F G p": false, "p": true, "X p": false, "F q": false} {
		if is, e := truth.Model(read(t, text), w); is != want || e != api.OK {
			t.Errorf("%s: %t, %d", text, is, e)
		}
	}
	for i := range api.MaxProps {
		for l := range 1 << api.MaxProps {
			want := l>>i&1 == 1
			if is, e := truth.Model(prop(i), api.Word{Loop: []int{l}}); is != want || e != api.OK {
				t.Errorf("the proposition %d in the letter %d: %t, %d", i, l, is, e)
			}
		}
	}
}

// P3.3: the order of the rows, and rows of equal subformulas
func TestTable(t *testing.T) {
	for _, c := range []struct {
		text, word string
		want       []string // a row for each subformula, 1 for true
	}{
		{"F p", "1 0 ( 0 )", []string{"100", "100"}},
		{"p", "( 1 0 )", []string{"10"}},
		{"true", "( 0 )", []string{"1"}},
		{"p & p", "0 ( 1 )", []string{"01", "01"}},
		{"p U q & X p", "1 2 ( 1 0 )", []string{"1010", "0100", "1100", "0101", "0100"}},
		{"q -> X (q | p)", "2 ( 0 1 )", []string{"100", "001", "101", "010", "011"}},
	} {
		table, e := truth.Table(read(t, c.text), line(t, c.word))
		var got []string
		for _, row := range table {
			s := ""
			for _, is := range row {
				s += map[bool]string{true: "1", false: "0"}[is]
			}
			got = append(got, s)
		}
		if e != api.OK || !slices.Equal(got, c.want) {
			t.Errorf("Table(%s, %s) = %q, %d", c.text, c.word, got, e)
		}
	}
}

// P3.1, P3.3: the limits of formulas and words
func TestLargest(t *testing.T) {
	f := chain(api.Next, api.MaxNodes-1, prop(5))
	w := api.Word{Stem: make([]int, 150), Loop: make([]int, 50)}
	w.Loop[49] = 63
	table, e := truth.Table(f, w)
	if e != api.OK || len(table) != 60 || len(table[59]) != 200 {
		t.Fatalf("%d rows, %d", len(table), e)
	}
	for k, is := range table[59] {
		if is != (k == 140 || k == 190) {
			t.Errorf("at %d: %t", k, is)
		}
	}
	if is, e := truth.Holds(f, w, 140+50*1000000); !is || e != api.OK {
		t.Errorf("Holds = %t, %d", is, e)
	}
}

// P3.1, P3.2, P3.3: invalid arguments, and the order of errors
func TestErrors(t *testing.T) {
	f, w := read(t, "p U q"), line(t, "1 ( 2 )")
	check := func(f api.Formula, w api.Word) {
		t.Helper()
		for _, k := range []int{0, 1, -1, math.MinInt, math.MaxInt} {
			if is, e := truth.Holds(f, w, k); is || e != api.ErrArg {
				t.Errorf("Holds at %d: %t, %d", k, is, e)
			}
		}
		if is, e := truth.Model(f, w); is || e != api.ErrArg {
			t.Errorf("Model: %t, %d", is, e)
		}
		if l, e := truth.Table(f, w); len(l) != 0 || e != api.ErrArg {
			t.Errorf("Table: %v, %d", l, e)
		}
	}
	for _, bad := range badFormulas() {
		check(bad, w)
	}
	for _, bad := range badWords() {
		check(f, bad)
		check(api.Formula{Op: 99}, bad)
	}
	for _, k := range []int{-1, -2, -200, math.MinInt} {
		if is, e := truth.Holds(f, w, k); is || e != api.ErrRange {
			t.Errorf("Holds at %d: %t, %d", k, is, e)
		}
	}
}

// Rule 6 and P2: no call changes its arguments, and the rows of a table are memory of their own.
func TestEffects(t *testing.T) {
	f, w := read(t, "(p U q) & X (p U q)"), line(t, "1 1 ( 2 0 1 )")
	first, _ := truth.Table(f, w)
	want, _ := truth.Table(f, w)
	for i := range first {
		for k := range first[i] {
			first[i][k] = !first[i][k]
		}
		first[i] = append(first[i], true)
		for below := i + 1; below < len(first); below++ {
			if !slices.Equal(first[below], want[below]) {
				t.Fatalf("the rows %d and %d share memory", i, below)
			}
		}
	}
	again, _ := truth.Table(f, w)
	if !slices.EqualFunc(want, again, slices.Equal) {
		t.Error("another table has changed")
	}
	if !ltl.Same(f, read(t, "(p U q) & X (p U q)")) || !identical(w, line(t, "1 1 ( 2 0 1 )")) {
		t.Error("an argument has changed")
	}
}

// P3.5: other words for the same letters
func TestEqualWords(t *testing.T) {
	g := generator(2)
	for i := range 300 {
		f, w := read(t, g.text(3+i%12)), g.word(i%5, 1+i%4)
		want, _ := truth.Model(f, w)
		normal, _ := word.Normal(w)
		twice, _ := word.Loops(w, 2+i%3)
		turned := api.Word{Stem: append(slices.Clone(w.Stem), w.Loop[0]), Loop: append(slices.Clone(w.Loop[1:]), w.Loop[0])}
		for _, v := range []api.Word{normal, twice, turned} {
			if is, e := truth.Model(f, v); is != want || e != api.OK {
				t.Fatalf("%v: %t of %v, but %t of %v", f, want, w, is, v)
			}
		}
	}
}

// P3.6: positions and suffixes
func TestSuffixes(t *testing.T) {
	g := generator(3)
	for i := range 300 {
		f, w := read(t, g.text(3+i%12)), g.word(i%5, 1+i%4)
		for k := range 12 {
			rest, _ := word.From(w, k)
			want, _ := truth.Model(f, rest)
			if is, e := truth.Holds(f, w, k); is != want || e != api.OK {
				t.Fatalf("%v of %v at %d: %t, but %t of %v", f, w, k, is, want, rest)
			}
		}
	}
}

// P3.7: negation normal forms
func TestNormalForms(t *testing.T) {
	g := generator(4)
	list := texts(3)
	for i := range 300 {
		list = append(list, g.text(4+i%8))
	}
	for i, text := range list {
		f := read(t, text)
		pos, e := ltl.Nnf(f)
		if e != api.OK {
			continue
		}
		for j := range 5 {
			w := g.word(j, 1+i%4)
			want, _ := truth.Model(f, w)
			if is, e := truth.Model(pos, w); is != want || e != api.OK {
				t.Fatalf("%s of %v: %t, but Nnf %t, %d", text, w, want, is, e)
			}
			neg, e := ltl.Negate(f)
			if e != api.OK {
				continue
			}
			if is, e := truth.Model(neg, w); is == want || e != api.OK {
				t.Fatalf("%s of %v: %t, and Negate %t, %d", text, w, want, is, e)
			}
		}
	}
}

// P3.8: the expansions
func TestExpansions(t *testing.T) {
	for _, c := range [][2]string{
		{"p U q", "q | p & X (p U q)"},
		{"p R q", "q & (p | X (p R q))"},
		{"p W q", "q | p & X (p W q)"},
		{"p W q", "(p U q) | G p"},
		{"F p", "true U p"},
		{"G p", "false R p"},
		{"F p", "p | X F p"},
		{"G p", "p & X G p"},
		{"!(p U q)", "!p R !q"},
		{"!X p", "X !p"},
		{"!(p W q)", "(p & !q) U (!p & !q)"},
	} {
		f, g := read(t, c[0]), read(t, c[1])
		if w, e := truth.Differ(f, g, 2, 4); e != api.ErrNone {
			t.Errorf("%s and %s differ on %v, %d", c[0], c[1], w, e)
		}
		for _, w := range smallWords(2, 4) {
			for k := range 3 {
				a, _ := truth.Holds(f, w, k)
				b, _ := truth.Holds(g, w, k)
				if a != b {
					t.Fatalf("%s and %s differ on %v at %d", c[0], c[1], w, k)
				}
			}
		}
	}
}
