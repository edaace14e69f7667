package ltl_test

import (
	"strings"
	"testing"

	"lodesman/api"
	"lodesman/ltl"
)

// P2.6: what the parser reads, with all parentheses
func TestParse(t *testing.T) {
	for text, want := range map[string]string{
		"true":                     "true",
		"false":                    "false",
		"p":                        "p",
		"((p))":                    "p",
		"  ( p )  ":                "p",
		"GFp":                      "G(F(p))",
		"XXp":                      "X(X(p))",
		"!X F G true":              "!(X(F(G(true))))",
		"p&q":                      "((p)&(q))",
		"p&q&r":                    "((((p)&(q)))&(r))",
		"p|q|r":                    "((((p)|(q)))|(r))",
		"p<->q<->r":                "((((p)<->(q)))<->(r))",
		"p->q->r":                  "((p)->(((q)->(r))))",
		"p U q U r":                "((p)U(((q)U(r))))",
		"p U q R r W p":            "((p)U(((q)R(((r)W(p))))))",
		"p W q R r":                "((p)W(((q)R(r))))",
		"pUq":                      "((p)U(q))",
		"pUXq":                     "((p)U(X(q)))",
		"!p U q":                   "((!(p))U(q))",
		"F !r U q":                 "((F(!(r)))U(q))",
		"p & q U r":                "((p)&(((q)U(r))))",
		"p U q & r":                "((((p)U(q)))&(r))",
		"p | q & r":                "((p)|(((q)&(r))))",
		"p & q | r":                "((((p)&(q)))|(r))",
		"p -> q | r":               "((p)->(((q)|(r))))",
		"p | q -> r":               "((((p)|(q)))->(r))",
		"p <-> q -> r":             "((p)<->(((q)->(r))))",
		"p -> q <-> r":             "((((p)->(q)))<->(r))",
		"p <-> q -> r | p & q U r": "((p)<->(((q)->(((r)|(((p)&(((q)U(r))))))))))",
		"p U q & r | p -> q <-> r": "((((((((((p)U(q)))&(r)))|(p)))->(q)))<->(r))",
		"p -> q -> r <-> p -> q":   "((((p)->(((q)->(r)))))<->(((p)->(q))))",
		"(p -> q) -> r":            "((((p)->(q)))->(r))",
		"p & (q & r)":              "((p)&(((q)&(r))))",
		"G(p->Xq)&F!rUq":           "((G(((p)->(X(q)))))&(((F(!(r)))U(q))))",
		"G (p -> X q) & F !r U q":  "((G(((p)->(X(q)))))&(((F(!(r)))U(q))))",
		"X(p)U(q)":                 "((X(p))U(q))",
		"true&false|p":             "((((true)&(false)))|(p))",
		"p   <->   q":              "((p)<->(q))",
		" ! ( p ) ":                "!(p)",
		strings.Repeat("(", 8000) + "p" + strings.Repeat(")", 8000): "p",
	} {
		if f, e := ltl.Parse(names, text); e != api.OK || full(f) != want {
			t.Errorf("Parse(%q) = %v, %d", text, f, e)
		}
	}
}

// P2.6: example 1 of the chapter
func TestExample(t *testing.T) {
	text := "G (r -> X g) & F !r U g"
	f, e := ltl.Parse([]string{"r", "g"}, text)
	if e != api.OK || f.Op != api.And || f.Args[0].Op != api.Always || f.Args[1].Op != api.Until {
		t.Errorf("Parse = %v, %d", f, e)
	}
	if s, e := ltl.Print([]string{"r", "g"}, f); e != api.OK || s != text {
		t.Errorf("Print = %q, %d", s, e)
	}
}

// P2.6: texts that are no formulas
func TestParseErrors(t *testing.T) {
	for _, text := range []string{
		"", " ", "()", "(", ")", "(p", "p)", "((p)", "(p))", ")p(", "p q", "p (q)", "(p) q", "p !q", "p X q", "p true",
		"&", "p &", "& p", "p & & q", "p | | q", "p || q", "p && q", "!", "X", "p !", "G", "U", "p U", "U p", "p U U q", "p U & q", "! & p",
		"a", "pq", "p1", "P", "p Q q", "Z p", "truep", "True", "TRUE", "true1", "tru", "falsep", "pU1", "1", "0p", "p 1", "12",
		"<", "p < q", "p <- q", "p <-- q", "p <- > q", "p < -> q", "p - > q", "p - q", "p > q", "p <> q", "p = q", "p -> -> q", "p -> > q", "p <->-> q", "p ->-> q",
		"p\t& q", "p\n", "\np", "p\r", "p\x00", "\x00", "p\u00a0", "é", "\xff", "p ∧ q", "¬p", "p;", "p,q", "p.", "[p]", "{p}", "_", "p_", "\"p\"",
		strings.Repeat("(", api.MaxText), strings.Repeat("!", api.MaxText), strings.Repeat("p ", api.MaxText/2), strings.Repeat("p->", 5000), strings.Repeat("p U ", 4000),
	} {
		if f, e := ltl.Parse(names, text); e != api.ErrForm || !zero(f) {
			t.Errorf("Parse(%q) = %v, %d", text, f, e)
		}
	}
}

// P2.6: the limits of the text and of the formula, and which error goes first
func TestParseLimits(t *testing.T) {
	for text, want := range map[string]api.Errno{
		unary(59):                              api.OK,
		unary(60):                              api.ErrFull,
		unary(60) + " q":                       api.ErrForm,
		unary(60) + ")":                        api.ErrForm,
		unary(api.MaxText - 1):                 api.ErrFull,
		unary(api.MaxText):                     api.ErrFull,
		strings.Repeat("p & ", 29) + "p":       api.OK,
		strings.Repeat("p & ", 29) + "!p":      api.OK,
		strings.Repeat("p & ", 29) + "!!p":     api.ErrFull,
		strings.Repeat("p & ", 30) + "p":       api.ErrFull,
		strings.Repeat("p -> ", 30) + "p":      api.ErrFull,
		strings.Repeat("p -> ", 3000) + "p":    api.ErrFull,
		strings.Repeat("p -> ", 3000):          api.ErrForm,
		"p" + strings.Repeat(" ", 1<<14-1):     api.OK,
		"p" + strings.Repeat(" ", 1<<14):       api.ErrFull,
		strings.Repeat("%", api.MaxText):       api.ErrForm,
		strings.Repeat("%", api.MaxText+1):     api.ErrFull,
		strings.Repeat("(", 1<<20):             api.ErrFull,
		strings.Repeat("a", api.MaxText):       api.ErrForm,
		"p & " + strings.Repeat("a1", 8000):    api.ErrForm,
		strings.Repeat("(p|", 5000) + "p":      api.ErrForm,
		"(" + strings.Repeat("X", 16000) + "p": api.ErrForm,
	} {
		if f, e := ltl.Parse(names, text); e != want || e != api.OK && !zero(f) {
			t.Errorf("Parse(%.20q.., %d bytes) = %v, %d", text, len(text), f, e)
		}
	}
}

// P2.6: names, for both functions
func TestNames(t *testing.T) {
	many := []string{"a", "b", "c", "d", "e", "f"}
	for _, c := range []struct {
		names []string
		want  api.Errno
	}{
		{nil, api.OK},
		{[]string{}, api.OK},
		{many, api.OK},
		{append(many[:6:6], "g"), api.ErrRange},
		{append(many[:6:6], "a"), api.ErrRange},
		{make([]string, 100000), api.ErrRange},
		{[]string{"x", "trues", "u2", "u"}, api.OK},
		{[]string{"abcdefghijkl"}, api.OK},
		{[]string{"abcdefghijklm"}, api.ErrForm},
		{[]string{"a23456789012"}, api.OK},
		{[]string{"a234567890123"}, api.ErrForm},
		{[]string{"p", "q", "p"}, api.ErrForm},
		{[]string{"p", "p"}, api.ErrForm},
		{[]string{""}, api.ErrForm},
		{[]string{"p", ""}, api.ErrForm},
		{[]string{"true"}, api.ErrForm},
		{[]string{"p", "false"}, api.ErrForm},
		{[]string{"1"}, api.ErrForm},
		{[]string{"1p"}, api.ErrForm},
		{[]string{"P"}, api.ErrForm},
		{[]string{"pQ"}, api.ErrForm},
		{[]string{"X"}, api.ErrForm},
		{[]string{"p_"}, api.ErrForm},
		{[]string{"p q"}, api.ErrForm},
		{[]string{" p"}, api.ErrForm},
		{[]string{"p "}, api.ErrForm},
		{[]string{"&"}, api.ErrForm},
		{[]string{"("}, api.ErrForm},
		{[]string{"é"}, api.ErrForm},
		{[]string{"p\x00"}, api.ErrForm},
		{[]string{strings.Repeat("a", 1<<20)}, api.ErrForm},
	} {
		if f, e := ltl.Parse(c.names, "X true"); e != c.want || e != api.OK && !zero(f) {
			t.Errorf("Parse with %.80q = %v, %d", c.names, f, e)
		}
		if s, e := ltl.Print(c.names, node(api.Next, node(api.True))); e != c.want || e != api.OK && s != "" {
			t.Errorf("Print with %.80q = %q, %d", c.names, s, e)
		}
		if c.want == api.OK {
			continue
		}
		// Wrong names go before a wrong text and a wrong formula.
		if _, e := ltl.Parse(c.names, strings.Repeat("%", 1<<15)); e != c.want {
			t.Errorf("Parse of a wrong text with %.80q: %d", c.names, e)
		}
		if _, e := ltl.Print(c.names, api.Formula{Op: 99}); e != c.want {
			t.Errorf("Print of a wrong formula with %.80q: %d", c.names, e)
		}
	}
}

// P2.6: names in formulas
func TestNamesInText(t *testing.T) {
	list := []string{"x", "xy", "x1", "trues", "a2345678901z", "y"}
	for i, name := range list {
		if f, e := ltl.Parse(list, name); e != api.OK || !identical(f, prop(i)) {
			t.Errorf("Parse(%s) = %v, %d", name, f, e)
		}
		if s, e := ltl.Print(list, prop(i)); e != api.OK || s != name {
			t.Errorf("Print(%d) = %s, %d", i, s, e)
		}
		if f, e := ltl.Parse(list, name+"U"+name); e != api.OK || !identical(f, node(api.Until, prop(i), prop(i))) {
			t.Errorf("Parse(%sU%s) = %v, %d", name, name, f, e)
		}
	}
	for _, text := range []string{"x 1", "x y & x", "xx", "a2345678901", "a2345678901zz", "z"} {
		if f, e := ltl.Parse(list, text); e != api.ErrForm || !zero(f) {
			t.Errorf("Parse(%s) = %v, %d", text, f, e)
		}
	}
	for _, n := range []int{0, 1, 2, 3} {
		_, e := ltl.Print(names[:n], prop(1))
		if want := n > 1; (e == api.OK) != want || !want && e != api.ErrArg {
			t.Errorf("Print of a proposition 1 of %d: %d", n, e)
		}
		if _, e := ltl.Parse(names[:n], "q"); (e == api.OK) != (n > 1) {
			t.Errorf("Parse of a proposition 1 of %d: %d", n, e)
		}
	}
}

// P2.6: the printed form, blanks and parentheses
func TestPrint(t *testing.T) {
	for _, text := range []string{
		"true", "false", "p", "!p", "X p", "F p", "G p", "!!p", "!X p", "X !p", "X X p", "!(p & q)", "X (p U q)", "G (p -> q)", "F !(p | q)",
		"p & q", "p | q", "p -> q", "p <-> q", "p U q", "p R q", "p W q",
		"p & q & r", "p & (q & r)", "p | q | r", "p | (q | r)", "p <-> q <-> r", "p <-> (q <-> r)",
		"p -> q -> r", "(p -> q) -> r", "p U q U r", "(p U q) U r", "p U q R r", "(p U q) R r", "p W q U r", "(p W q) U r", "p R q R r", "(p R q) W r",
		"p & q | r", "p & (q | r)", "(p | q) & r", "p | q & r", "p | q -> r", "p | (q -> r)", "(p -> q) | r", "p -> q <-> r", "p -> (q <-> r)", "(p <-> q) -> r", "p <-> q -> r",
		"p U q & r", "p U (q & r)", "(p & q) U r", "p & q U r", "(p <-> q) U (q <-> r)",
		"!p & !q", "!p U X q", "(X p & q) W !(p R r)",
	} {
		if got := show(t, read(t, text)); got != text {
			t.Errorf("%q is printed as %q", text, got)
		}
	}
}

// P2.9 and P10: round trips; parentheses are there only where the formula needs them.
func TestRoundTrip(t *testing.T) {
	for _, f := range samples() {
		text := show(t, f)
		if g, e := ltl.Parse(names, text); e != api.OK || !identical(f, g) {
			t.Fatalf("%v is printed as %q, and read as %v, %d", f, text, g, e)
		}
		if g, e := ltl.Parse(names, full(f)); e != api.OK || !identical(f, g) {
			t.Fatalf("Parse(%q) = %v, %d", full(f), g, e)
		}
		for _, at := range enclosures(text) {
			if g, e := ltl.Parse(names, without(text, at)); e == api.OK && identical(f, g) {
				t.Fatalf("parentheses at %v are not needed in %q", at, text)
			}
		}
		if g, e := ltl.Parse(names, strings.ReplaceAll(" "+text+" ", " ", "  ")); e != api.OK || !identical(f, g) {
			t.Fatalf("%q with more blanks: %v, %d", text, g, e)
		}
		if g, e := ltl.Parse(names, strings.ReplaceAll(text, " ", "")); e != api.OK || !identical(f, g) {
			t.Fatalf("%q without blanks: %v, %d", text, g, e)
		}
	}
}

// P1: no text makes Parse fail in another way; what it accepts is valid.
func TestParseAnything(t *testing.T) {
	tokens := []string{"p", "q1", "true", "(", ")", "!", "X", "U", "&", "->", "<", "-", " ", "1"}
	var try func(text string, more int)
	try = func(text string, more int) {
		f, e := ltl.Parse(names, text)
		if e == api.OK && !ltl.Valid(f, 3) || e != api.OK && (e != api.ErrForm || !zero(f)) {
			t.Fatalf("Parse(%q) = %v, %d", text, f, e)
		}
		for i := 0; more > 0 && i < len(tokens); i++ {
			try(text+tokens[i], more-1)
		}
	}
	try("", 5)
}
