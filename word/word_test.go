package word_test

import (
	"math"
	"reflect"
	"slices"
	"testing"

	"lodesman/api"
	"lodesman/word"
)

// of makes a word.
func of(stem []int, loop ...int) api.Word { return api.Word{Stem: stem, Loop: loop} }

// zeros is a list of n times 0.
func zeros(n int) []int { return make([]int, n) }

// letter is the letter of w at position k, by the definition.
func letter(w api.Word, k int) int {
	if k < len(w.Stem) {
		return w.Stem[k]
	}
	return w.Loop[(k-len(w.Stem))%len(w.Loop)]
}

// identical reports whether a and b are written with the same lists.
func identical(a, b api.Word) bool {
	return slices.Equal(a.Stem, b.Stem) && slices.Equal(a.Loop, b.Loop)
}

// zero reports whether w is the zero value, as a result beside an error has to be.
func zero(w api.Word) bool { return len(w.Stem) == 0 && len(w.Loop) == 0 }

// lists returns all lists of at most most letters below n.
func lists(n, most int) [][]int {
	all := [][]int{{}}
	for from := 0; most > 0; most-- {
		to := len(all)
		for ; from < to; from++ {
			for l := range n {
				all = append(all, append(slices.Clone(all[from]), l))
			}
		}
	}
	return all
}

// smallWords returns all words over one proposition with short lists.
func smallWords() []api.Word {
	var all []api.Word
	for _, stem := range lists(2, 3) {
		for _, loop := range lists(2, 4)[1:] {
			all = append(all, api.Word{Stem: stem, Loop: loop})
		}
	}
	return all
}

// agree compares the letters of two small words; 16 positions contain both stems and a common multiple of their loops.
func agree(a, b api.Word) bool {
	for k := range 16 {
		if letter(a, k) != letter(b, k) {
			return false
		}
	}
	return true
}

// invalid are words that no function accepts.
func invalid() []api.Word {
	return []api.Word{
		{},
		of([]int{1}),
		of(nil, 64),
		of(nil, -1),
		of([]int{64}, 0),
		of([]int{-1}, 0),
		of([]int{math.MaxInt}, 0),
		of([]int{math.MinInt}, 0),
		of(zeros(200), 0),
		of(nil, zeros(201)...),
		of(zeros(100000), zeros(100000)...),
	}
}

// numbers are ints of all sizes.
func numbers() []int {
	return []int{math.MinInt, math.MinInt + 1, -1 << 32, -200, -1, 0, 1, 2, 5, 6, 7, 63, 64, 199, 200, 201, 1 << 31, 1 << 62, math.MaxInt - 1, math.MaxInt}
}

// P1.1
func TestValid(t *testing.T) {
	for _, c := range []struct {
		w    api.Word
		n    int
		want bool
	}{
		{of(nil, 0), 0, true},
		{of(nil, 1), 0, false},
		{of([]int{1}, 0), 0, false},
		{of([]int{1}, 0, 1), 1, true},
		{of([]int{2}, 0, 1), 1, false},
		{of([]int{1}, 0, 2), 1, false},
		{of([]int{63}, 63), 6, true},
		{of([]int{64}, 63), 6, false},
		{of([]int{63}, 63), 5, false},
		{of(nil, -1), 6, false},
		{of([]int{-1}, 0), 6, false},
		{of([]int{1}), 6, false},
		{api.Word{}, 6, false},
		{of(zeros(199), 0), 0, true},
		{of(zeros(200), 0), 0, false},
		{of(nil, zeros(200)...), 0, true},
		{of(nil, zeros(201)...), 0, false},
		{of(zeros(1), zeros(200)...), 0, false},
		{of(nil, 0), -1, false},
		{of(nil, 0), 7, false},
		{of(nil, 0), math.MinInt, false},
		{of(nil, 0), math.MaxInt, false},
		{of(nil, 0), 64, false},
	} {
		if got := word.Valid(c.w, c.n); got != c.want {
			t.Errorf("Valid(%v, %d) = %v", c.w, c.n, got)
		}
	}
}

// P1.2
func TestAt(t *testing.T) {
	w := of([]int{1, 2}, 3, 4, 5)
	for k := range 50 {
		if l, e := word.At(w, k); l != letter(w, k) || e != api.OK {
			t.Errorf("At(%d) = %d, %d", k, l, e)
		}
	}
	if l, e := word.At(of(nil, 8, 9), math.MaxInt); l != 9 || e != api.OK {
		t.Errorf("At(MaxInt) = %d, %d", l, e)
	}
	for _, k := range []int{-1, math.MinInt} {
		if l, e := word.At(w, k); l != 0 || e != api.ErrRange {
			t.Errorf("At(%d) = %d, %d", k, l, e)
		}
	}
	if l, e := word.At(of([]int{1}), -1); l != 0 || e != api.ErrArg {
		t.Errorf("invalid word and position: %d, %d", l, e)
	}
}

// P1.3, and the examples of the chapter
func TestNormal(t *testing.T) {
	for _, c := range []struct{ w, want api.Word }{
		{of([]int{1, 0}, 1, 0, 1, 0), of(nil, 1, 0)},
		{of([]int{0}, 1, 0), of(nil, 0, 1)},
		{of([]int{1}, 1, 1), of(nil, 1)},
		{of([]int{1, 2}, 3, 3), of([]int{1, 2}, 3)},
		{of([]int{5, 3, 2, 3}, 2, 3, 2, 3), of([]int{5}, 3, 2)},
		{of([]int{0, 1, 2, 0, 1, 2, 0}, 1, 2, 0), of(nil, 0, 1, 2)},
		{of([]int{2, 0, 1, 2}, 0, 1, 2), of(nil, 2, 0, 1)},
		{of(nil, 1, 1, 0, 1, 1, 0), of(nil, 1, 1, 0)},
		{of(nil, 0, 0, 1, 0, 0), of(nil, 0, 0, 1, 0, 0)},
		{of(nil, slices.Repeat([]int{0, 0, 1}, 3)...), of(nil, 0, 0, 1)},
		{of(nil, slices.Repeat([]int{0, 0, 0, 0, 1}, 2)...), of(nil, 0, 0, 0, 0, 1)},
		{of([]int{4}, slices.Repeat([]int{0, 1, 2, 3, 4, 5, 6}, 28)...), of([]int{4}, 0, 1, 2, 3, 4, 5, 6)},
		{of(zeros(199), 0), of(nil, 0)},
		{of([]int{63}, 62), of([]int{63}, 62)},
	} {
		if got, e := word.Normal(c.w); e != api.OK || !identical(got, c.want) {
			t.Errorf("Normal(%v) = %v, %d", c.w, got, e)
		}
	}
}

// Every function takes all letters over MaxProps propositions.
func TestGreatestLetters(t *testing.T) {
	w := of([]int{1, 63}, 62, 33)
	if l, e := word.At(w, 1); l != 63 || e != api.OK {
		t.Errorf("At = %d, %d", l, e)
	}
	if is, e := word.Same(w, w); !is || e != api.OK {
		t.Errorf("Same = %v, %d", is, e)
	}
	if f, e := word.From(w, 1); e != api.OK || !identical(f, of([]int{63}, 62, 33)) {
		t.Errorf("From = %v, %d", f, e)
	}
	if h, e := word.Ahead([]int{63}, w); e != api.OK || !identical(h, of([]int{63, 1, 63}, 62, 33)) {
		t.Errorf("Ahead = %v, %d", h, e)
	}
	if l, e := word.Loops(w, 2); e != api.OK || !identical(l, of([]int{1, 63}, 62, 33, 62, 33)) {
		t.Errorf("Loops = %v, %d", l, e)
	}
}

// P1.3, P1.8, P1.9: on all small words, against the definition
func TestNormalForms(t *testing.T) {
	all := smallWords()
	forms := make([]api.Word, len(all))
	for i, w := range all {
		var e api.Errno
		forms[i], e = word.Normal(w)
		if e != api.OK || !word.Valid(forms[i], 1) || !agree(w, forms[i]) {
			t.Fatalf("Normal(%v) = %v, %d", w, forms[i], e)
		}
	}
	for i, a := range all {
		for j, b := range all {
			equal := agree(a, b)
			if equal != identical(forms[i], forms[j]) {
				t.Fatalf("%v, %v: normal forms %v, %v", a, b, forms[i], forms[j])
			}
			if got, e := word.Same(a, b); got != equal || e != api.OK {
				t.Fatalf("Same(%v, %v) = %v, %d", a, b, got, e)
			}
			loop, stem := len(forms[i].Loop), len(forms[i].Stem)
			if equal && (len(b.Loop) < loop || len(b.Loop) == loop && len(b.Stem) < stem) {
				t.Fatalf("Normal(%v) = %v, but %v is shorter", a, forms[i], b)
			}
		}
	}
}

// P1.3: words that differ late or only in how they are written, and words that are not valid
func TestSame(t *testing.T) {
	for _, c := range []struct {
		a, b api.Word
		want bool
	}{
		{of(zeros(198), 0, 1), of(zeros(199), 1), false},
		{of(zeros(199), 1), of(zeros(198), 0), false},
		{of(zeros(199), 0), of(nil, zeros(200)...), true},
		{of(zeros(198), 0, 1), of(zeros(100), 0, 1, 0, 1), false},
		{of(zeros(101), 0, 1), of(zeros(102), 1, 0, 1, 0, 1, 0), true},
		{of(zeros(101), 0, 1), of(zeros(101), 1, 0), false},
		{of(nil, append(zeros(199), 1)...), of(zeros(199), 1), false},
		{of([]int{63}, 0), of([]int{62}, 0), false},
	} {
		if is, e := word.Same(c.a, c.b); is != c.want || e != api.OK {
			t.Errorf("Same(%v, %v) = %v, %d", c.a, c.b, is, e)
		}
	}
	for _, w := range invalid() {
		for _, pair := range [][2]api.Word{{w, of(nil, 0)}, {of(nil, 0), w}, {w, w}} {
			if is, e := word.Same(pair[0], pair[1]); is || e != api.ErrArg {
				t.Errorf("Same(%v) = %v, %d", pair, is, e)
			}
		}
	}
}

// P1.4, P1.8
func TestFrom(t *testing.T) {
	for _, w := range smallWords() {
		for k := range 12 {
			f, e := word.From(w, k)
			if e != api.OK {
				t.Fatalf("From(%v, %d): %d", w, k, e)
			}
			for j := range 16 {
				if letter(f, j) != letter(w, k+j) {
					t.Fatalf("From(%v, %d) = %v", w, k, f)
				}
			}
			if n, _ := word.Normal(f); !identical(n, f) {
				t.Fatalf("From(%v, %d) = %v is not normal", w, k, f)
			}
		}
	}
	if f, e := word.From(of([]int{7}, 1, 2), math.MaxInt); e != api.OK || !identical(f, of(nil, 1, 2)) {
		t.Errorf("From(MaxInt) = %v, %d", f, e)
	}
	for _, k := range []int{-1, math.MinInt} {
		if f, e := word.From(of(nil, 1), k); !zero(f) || e != api.ErrRange {
			t.Errorf("From(%d) = %v, %d", k, f, e)
		}
		if f, e := word.From(of([]int{1}), k); !zero(f) || e != api.ErrArg {
			t.Errorf("invalid word and position: %v, %d", f, e)
		}
	}
}

// P1.4
func TestAhead(t *testing.T) {
	for _, w := range smallWords() {
		for _, l := range lists(2, 3) {
			h, e := word.Ahead(l, w)
			long := api.Word{Stem: append(slices.Clone(l), w.Stem...), Loop: w.Loop}
			if want, _ := word.Normal(long); e != api.OK || !identical(h, want) {
				t.Fatalf("Ahead(%v, %v) = %v, %d", l, w, h, e)
			}
		}
	}
}

// P1.4: the limit applies to the normal form
func TestAheadLimits(t *testing.T) {
	ones := func(n int) []int { return slices.Repeat([]int{1}, n) }
	if h, e := word.Ahead(ones(199), of(nil, 0)); e != api.OK || len(h.Stem) != 199 || len(h.Loop) != 1 {
		t.Errorf("200 letters: %v, %d", h, e)
	}
	if h, e := word.Ahead(ones(200), of(nil, 0)); e != api.ErrFull || !zero(h) {
		t.Errorf("201 letters: %v, %d", h, e)
	}
	if h, e := word.Ahead(ones(199), of([]int{0}, 0)); e != api.OK || len(h.Stem) != 199 {
		t.Errorf("200 letters after all: %v, %d", h, e)
	}
	if h, e := word.Ahead(zeros(1000000), of(nil, 0)); e != api.OK || !identical(h, of(nil, 0)) {
		t.Errorf("a million zeros: %v, %d", h, e)
	}
	if h, e := word.Ahead(ones(1000000), of(nil, 0)); e != api.ErrFull || !zero(h) {
		t.Errorf("a million ones: %d, %d", len(h.Stem), e)
	}
	if h, e := word.Ahead(nil, of([]int{0}, 1, 0)); e != api.OK || !identical(h, of(nil, 0, 1)) {
		t.Errorf("nothing ahead: %v, %d", h, e)
	}
	if h, e := word.Ahead([]int{63}, of(nil, 0)); e != api.OK || !identical(h, of([]int{63}, 0)) {
		t.Errorf("the greatest letter: %v, %d", h, e)
	}
	for _, l := range []int{-1, 64, math.MinInt, math.MaxInt} {
		if h, e := word.Ahead([]int{0, l}, of(nil, 0)); e != api.ErrArg || !zero(h) {
			t.Errorf("letter %d: %v, %d", l, h, e)
		}
		if _, e := word.Ahead(append(ones(300), l), of(nil, 0)); e != api.ErrArg {
			t.Errorf("letter %d in a long list: %d", l, e)
		}
	}
}

// P1.5, P1.8
func TestMixAndSplit(t *testing.T) {
	for _, a := range smallWords() {
		for _, b := range smallWords() {
			m, e := word.Mix(a, b, 1, 1)
			if e != api.OK || !word.Valid(m, 2) {
				t.Fatalf("Mix(%v, %v) = %v, %d", a, b, m, e)
			}
			for k := range 16 {
				if letter(m, k) != letter(a, k)+2*letter(b, k) {
					t.Fatalf("Mix(%v, %v) = %v", a, b, m)
				}
			}
			if n, _ := word.Normal(m); !identical(n, m) {
				t.Fatalf("Mix(%v, %v) = %v is not normal", a, b, m)
			}
			x, y, e := word.Split(m, 1)
			if na, _ := word.Normal(a); e != api.OK || !identical(x, na) {
				t.Fatalf("Split(%v) = %v, %d: not %v", m, x, e, na)
			}
			if nb, _ := word.Normal(b); !identical(y, nb) {
				t.Fatalf("Split(%v) = %v: not %v", m, y, nb)
			}
		}
	}
}

// P1.5: numbers of propositions
func TestMixWidths(t *testing.T) {
	for n := range 7 {
		for m := range 7 - n {
			a, b := of([]int{1<<n - 1}, 0), of(nil, 1<<m-1)
			w, e := word.Mix(a, b, n, m)
			full, above := 1<<(n+m)-1, (1<<m-1)<<n
			if e != api.OK || letter(w, 0) != full || letter(w, 1) != above || letter(w, 2) != above {
				t.Errorf("Mix(%v, %v, %d, %d) = %v, %d", a, b, n, m, w, e)
			}
			if _, e := word.Mix(of(nil, 1<<n), b, n, m); e != api.ErrArg {
				t.Errorf("first word over more than %d: %d", n, e)
			}
			if _, e := word.Mix(a, of(nil, 1<<m), n, m); e != api.ErrArg {
				t.Errorf("second word over more than %d: %d", m, e)
			}
		}
	}
	for _, c := range [][2]int{{-1, 0}, {0, -1}, {-1, 1}, {7, 0}, {0, 7}, {4, 3}, {6, 1}, {7, -1}, {-1, 7}, {math.MaxInt, math.MaxInt}, {math.MaxInt, 1}, {1, math.MaxInt}, {math.MinInt, math.MinInt}, {math.MinInt, 0}, {math.MaxInt, math.MinInt}} {
		if w, e := word.Mix(of(nil, 0), of(nil, 0), c[0], c[1]); e != api.ErrRange || !zero(w) {
			t.Errorf("Mix with %v: %v, %d", c, w, e)
		}
		if _, e := word.Mix(api.Word{}, api.Word{}, c[0], c[1]); e != api.ErrRange {
			t.Errorf("Mix of words that are not valid, with %v: %d", c, e)
		}
	}
}

// P1.5: the limit applies to the normal form
func TestMixLimits(t *testing.T) {
	tick := func(n int) api.Word { return of(nil, append(zeros(n-1), 1)...) }
	if w, e := word.Mix(tick(8), tick(25), 1, 1); e != api.OK || len(w.Loop) != 200 {
		t.Errorf("200 letters: %v, %d", w, e)
	}
	if w, e := word.Mix(tick(3), tick(67), 1, 1); e != api.ErrFull || !zero(w) {
		t.Errorf("201 letters: %v, %d", w, e)
	}
	if w, e := word.Mix(tick(199), tick(200), 1, 1); e != api.ErrFull || !zero(w) {
		t.Errorf("39800 letters: %d", e)
	}
	if w, e := word.Mix(of(nil, zeros(199)...), of(nil, zeros(200)...), 1, 1); e != api.OK || !identical(w, of(nil, 0)) {
		t.Errorf("zeros: %v, %d", w, e)
	}
	if w, e := word.Mix(of(append(zeros(198), 1), 0), tick(2), 1, 1); e != api.ErrFull || !zero(w) {
		t.Errorf("a stem of 199 and a loop of 2: %v, %d", w, e)
	}
}

// P1.5
func TestSplit(t *testing.T) {
	w := of([]int{63, 5}, 42, 21)
	for n := range 7 {
		a, b, e := word.Split(w, n)
		if e != api.OK {
			t.Fatalf("Split(%d): %d", n, e)
		}
		for k := range 10 {
			if letter(a, k) != letter(w, k)%(1<<n) || letter(b, k) != letter(w, k)/(1<<n) {
				t.Errorf("Split(%d) = %v, %v", n, a, b)
			}
		}
	}
	if a, b, _ := word.Split(w, 0); !identical(a, of(nil, 0)) || !identical(b, w) {
		t.Errorf("Split(0) = %v, %v", a, b)
	}
	for _, n := range []int{-1, 7, math.MinInt, math.MaxInt} {
		if a, b, e := word.Split(w, n); e != api.ErrRange || !zero(a) || !zero(b) {
			t.Errorf("Split(%d) = %v, %v, %d", n, a, b, e)
		}
		if _, _, e := word.Split(of([]int{1}), n); e != api.ErrArg {
			t.Errorf("Split of no word, with %d: %d", n, e)
		}
	}
}

// P1.7, P1.8
func TestLoops(t *testing.T) {
	for _, w := range smallWords() {
		for k := 1; k < 6; k++ {
			l, e := word.Loops(w, k)
			if e != api.OK || !slices.Equal(l.Stem, w.Stem) || !slices.Equal(l.Loop, slices.Repeat(w.Loop, k)) {
				t.Fatalf("Loops(%v, %d) = %v, %d", w, k, l, e)
			}
		}
	}
	w := of([]int{1, 2}, 3, 4, 5)
	if l, e := word.Loops(w, 66); e != api.OK || len(l.Loop) != 198 {
		t.Errorf("200 letters: %v, %d", l, e)
	}
	for _, k := range []int{67, 1 << 62, math.MaxInt} {
		if l, e := word.Loops(w, k); e != api.ErrFull || !zero(l) {
			t.Errorf("Loops(%d) = %v, %d", k, l, e)
		}
	}
	for _, k := range []int{0, -1, math.MinInt} {
		if l, e := word.Loops(w, k); e != api.ErrRange || !zero(l) {
			t.Errorf("Loops(%d) = %v, %d", k, l, e)
		}
		if l, e := word.Loops(of([]int{1}), k); e != api.ErrArg || !zero(l) {
			t.Errorf("Loops of no word: %v, %d", l, e)
		}
	}
	if l, e := word.Loops(of(zeros(199), 0), 1); e != api.OK || len(l.Stem) != 199 {
		t.Errorf("the longest word: %v, %d", l, e)
	}
}

// Rules 1, 2 and 5: every function refuses every word that is not valid, for all numbers.
func TestInvalidWords(t *testing.T) {
	for _, w := range invalid() {
		if n, e := word.Normal(w); e != api.ErrArg || !zero(n) {
			t.Errorf("Normal: %v, %d", n, e)
		}
		if s, e := word.Print(w); e != api.ErrArg || s != "" {
			t.Errorf("Print: %q, %d", s, e)
		}
		if h, e := word.Ahead([]int{1}, w); e != api.ErrArg || !zero(h) {
			t.Errorf("Ahead: %v, %d", h, e)
		}
		for _, k := range numbers() {
			if l, e := word.At(w, k); e != api.ErrArg || l != 0 {
				t.Errorf("At: %d, %d", l, e)
			}
			if f, e := word.From(w, k); e != api.ErrArg || !zero(f) {
				t.Errorf("From: %v, %d", f, e)
			}
			if l, e := word.Loops(w, k); e != api.ErrArg || !zero(l) {
				t.Errorf("Loops: %v, %d", l, e)
			}
			if a, b, e := word.Split(w, k); e != api.ErrArg || !zero(a) || !zero(b) {
				t.Errorf("Split: %v, %v, %d", a, b, e)
			}
			if word.Valid(w, k) {
				t.Errorf("Valid(%v, %d)", w, k)
			}
		}
	}
}

// Rule 6 and P2: calls change no argument, equal calls have equal results, and results are memory of their own.
func TestEffects(t *testing.T) {
	// The lists have room behind their ends, in which a call must not write either.
	memory := []int{1, 2, 3, 40, 4, 5, 41, 1, 42, 0, 1, 43, 7, 8, 44, 45, 46, 47, 48, 49}
	kept := slices.Clone(memory)
	w := api.Word{Stem: memory[:3], Loop: memory[4:6]}
	b := api.Word{Stem: memory[7:8], Loop: memory[9:11]}
	l := memory[12:14]
	spoil := func(r api.Word) {
		for _, list := range [][]int{r.Stem[:cap(r.Stem)], r.Loop[:cap(r.Loop)]} {
			for i := range list {
				list[i] = 63
			}
		}
	}
	calls := map[string]func() []api.Word{
		"Normal": func() []api.Word { r, _ := word.Normal(w); return []api.Word{r} },
		"From":   func() []api.Word { r, _ := word.From(w, 1); return []api.Word{r} },
		"later":  func() []api.Word { r, _ := word.From(w, 4); return []api.Word{r} },
		"Ahead":  func() []api.Word { r, _ := word.Ahead(l, w); return []api.Word{r} },
		"none":   func() []api.Word { r, _ := word.Ahead(nil, w); return []api.Word{r} },
		"Mix":    func() []api.Word { r, _ := word.Mix(w, b, 3, 1); return []api.Word{r} },
		"Split":  func() []api.Word { x, y, _ := word.Split(w, 1); return []api.Word{x, y} },
		"Loops":  func() []api.Word { r, _ := word.Loops(w, 2); return []api.Word{r} },
		"once":   func() []api.Word { r, _ := word.Loops(w, 1); return []api.Word{r} },
		"Parse":  func() []api.Word { r, _ := word.Parse("1 2 3 ( 4 5 )"); return []api.Word{r} },
	}
	for name, call := range calls {
		before, again := call(), call()
		if !reflect.DeepEqual(before, again) {
			t.Errorf("%s: %v, and then %v", name, before, again)
		}
		for _, r := range before {
			loop := slices.Clone(r.Loop)
			spoil(api.Word{Stem: r.Stem})
			if !slices.Equal(loop, r.Loop) {
				t.Errorf("%s: Stem and Loop of the result share memory", name)
			}
			spoil(r)
			if !slices.Equal(memory, kept) {
				t.Fatalf("%s changes or shares its arguments: %v", name, memory)
			}
		}
		if !reflect.DeepEqual(again, call()) {
			t.Errorf("%s: results share memory", name)
		}
	}
}
