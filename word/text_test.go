package word_test

import (
	"strings"
	"testing"

	"lodesman/api"
	"lodesman/word"
)

// P1.6
func TestPrint(t *testing.T) {
	for _, c := range []struct {
		w    api.Word
		want string
	}{
		{of([]int{1, 0}, 0, 3), "1 0 ( 0 3 )"},
		{of(nil, 0), "( 0 )"},
		{of([]int{63}, 10, 0), "63 ( 10 0 )"},
	} {
		if s, e := word.Print(c.w); s != c.want || e != api.OK {
			t.Errorf("Print(%v) = %q, %d", c.w, s, e)
		}
	}
}

// P1.6
func TestParse(t *testing.T) {
	for _, c := range []struct {
		text string
		want api.Word
	}{
		{"1 0 ( 0 3 )", of([]int{1, 0}, 0, 3)},
		{"( 0 )", of(nil, 0)},
		{"(0)", of(nil, 0)},
		{"  7(63)  ", of([]int{7}, 63)},
		{"12(3   4)", of([]int{12}, 3, 4)},
		{"1 2(3 4)", of([]int{1, 2}, 3, 4)},
		{"007 00 ( 0063 000 )", of([]int{7, 0}, 63, 0)},
		{"(" + strings.Repeat("0", 16000) + "5)", of(nil, 5)},
		{"1 0 ( 1 0 1 0 )", of([]int{1, 0}, 1, 0, 1, 0)},
	} {
		if w, e := word.Parse(c.text); e != api.OK || !identical(w, c.want) {
			t.Errorf("Parse(%q) = %v, %d", c.text, w, e)
		}
	}
}

// P1.6
func TestParseErrors(t *testing.T) {
	for _, s := range []string{
		"", " ", "( )", "()", "1", "1 2", "(", ")", "( 1", "1 )", "( 1 ) 2", "( 1 ) )", "( 1 ) (", "( ( 1 )", "( ( 1 ) )", "( 1 )( 1 )", ")1(",
		"( 64 )", "64 ( 0 )", "( 0064 )", "( 100 )", "( 18446744073709551616 )", "( 18446744073709551617 )", "( 4294967296 )", "(" + strings.Repeat("9", 16000) + ")",
		"( -1 )", "( +1 )", "( 1.0 )", "( 1,2 )", "( 0x1 )", "( 1_0 )", "( a )", "x", "1\t( 0 )", "1\n( 0 )", "( 0 )\n", "( 0 )\x00", "( \xff )", "( ١ )", "\u00a0( 0 )",
		strings.Repeat("0 ", 200) + "( 0 )", "( " + strings.Repeat("0 ", 201) + ")", strings.Repeat("0 ", 5000) + "( 0 )",
	} {
		if w, e := word.Parse(s); e != api.ErrForm || !zero(w) {
			t.Errorf("Parse(%q) = %v, %d", s, w, e)
		}
	}
}

// P1.6: the limits
func TestParseLimits(t *testing.T) {
	if w, e := word.Parse(strings.Repeat("0 ", 199) + "( 0 )"); e != api.OK || len(w.Stem) != 199 || len(w.Loop) != 1 {
		t.Errorf("200 letters: %v, %d", w, e)
	}
	padded := "( 1 )" + strings.Repeat(" ", api.MaxText-5)
	if w, e := word.Parse(padded); e != api.OK || !identical(w, of(nil, 1)) {
		t.Errorf("%d bytes: %v, %d", len(padded), w, e)
	}
	for _, s := range []string{padded + " ", strings.Repeat("x", api.MaxText+1), strings.Repeat("(", 1<<20)} {
		if w, e := word.Parse(s); e != api.ErrFull || !zero(w) {
			t.Errorf("%d bytes: %v, %d", len(s), w, e)
		}
	}
}

// P1.6, P1.8 and P10: what is printed is parsed back as it was, and not in its normal form.
func TestRoundTrip(t *testing.T) {
	words := append(smallWords(), of(zeros(199), 63), of([]int{63, 62, 61}, zeros(197)...), of(nil, 9, 10, 11, 10))
	for _, w := range words {
		s, e := word.Print(w)
		if e != api.OK {
			t.Fatalf("Print(%v): %d", w, e)
		}
		if r, e := word.Parse(s); e != api.OK || !identical(r, w) {
			t.Fatalf("Parse(%q) = %v, %d", s, r, e)
		}
		spaced := strings.ReplaceAll(" "+s+" ", " ", "  ")
		if r, e := word.Parse(spaced); e != api.OK || !identical(r, w) {
			t.Fatalf("Parse(%q) = %v, %d", spaced, r, e)
		}
	}
}

// P1: no text makes Parse fail in another way; what it accepts is a word whose printed form differs only in blanks and zeros.
func TestParseAnything(t *testing.T) {
	const bytes = "() 0136x"
	var try func(text string, more int)
	try = func(text string, more int) {
		w, e := word.Parse(text)
		if e == api.OK && !word.Valid(w, api.MaxProps) || e != api.OK && (e != api.ErrForm || !zero(w)) {
			t.Fatalf("Parse(%q) = %v, %d", text, w, e)
		}
		for i := 0; more > 0 && i < len(bytes); i++ {
			try(text+bytes[i:i+1], more-1)
		}
	}
	try("", 6)
}
