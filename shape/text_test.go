package shape_test

import (
	"strings"
	"testing"

	"lodesman/api"
	"lodesman/shape"
)

// P8.6 and P8.10
func TestPrintParse(t *testing.T) {
	for _, kind := range kinds {
		for _, a := range samples(11, kind, 150) {
			text, e := shape.Print(a)
			if e != api.OK {
				t.Fatalf("Print(%v): %d", a, e)
			}
			if b, e := shape.Parse(text); !identical(a, b) || e != api.OK {
				t.Fatalf("Parse(%q) = %v, %d", text, b, e)
			}
		}
	}
}

// P8.6: the form of the text
func TestPrintCases(t *testing.T) {
	for _, c := range []struct {
		a    api.Automaton
		want string
	}{
		{again(), "props 1 states 1 kind 0 marks 1\nstart 0\n0 0 1 1 1\n0 0 1 0 0\n"},
		{api.Automaton{Kind: api.General}, "props 0 states 0 kind 1 marks 0\nstart\n"},
		{api.Automaton{Props: 6, States: 3000, Start: []int{0, 10, 2999}, Kind: api.Parity, Marks: 40, Edges: []api.Edge{{From: 2999, To: 17, Care: 63, Bits: 42, Marks: 1<<40 - 1}}}, "props 6 states 3000 kind 5 marks 40\nstart 0 10 2999\n2999 17 63 42 1099511627775\n"},
	} {
		if s, e := shape.Print(c.a); s != c.want || e != api.OK {
			t.Errorf("Print(%v) = %q, %d", c.a, s, e)
		}
		if a, e := shape.Parse(c.want); !identical(a, c.a) || e != api.OK {
			t.Errorf("Parse(%q) = %v, %d", c.want, a, e)
		}
	}
}

// P8.6: texts of as many bytes as there may be, and of one more
func TestTextLimits(t *testing.T) {
	a := api.Automaton{States: 11, Kind: api.General, Marks: 4}
	add := func(e api.Edge, bytes int) {
		text, _ := shape.Print(a)
		for range (api.MaxText - len(text)) / bytes {
			a.Edges = append(a.Edges, e)
		}
	}
	add(api.Edge{}, len("0 0 0 0 0\n"))
	text, e := shape.Print(a)
	for i := range api.MaxText - len(text) {
		a.Edges[i].Marks = 10
	}
	text, e = shape.Print(a)
	if len(text) != api.MaxText || e != api.OK {
		t.Fatalf("%d bytes, %d", len(text), e)
	}
	if b, e := shape.Parse(text); !identical(a, b) || e != api.OK {
		t.Errorf("%d", e)
	}
	a.Edges[len(a.Edges)-1].To = 10
	if s, e := shape.Print(a); s != "" || e != api.ErrFull {
		t.Errorf("%d bytes, %d", len(s), e)
	}
	if s, e := shape.Print(crowd(api.Buchi, 1, func(int) int { return 0 })); s != "" || e != api.ErrFull {
		t.Errorf("%d bytes, %d", len(s), e)
	}
	for _, long := range []string{text + "\n", strings.Repeat("x", api.MaxText+1), strings.Repeat(text, 100), text + "0"} {
		if b, e := shape.Parse(long); !zero(b) || e != api.ErrFull {
			t.Errorf("%d bytes: %d", len(long), e)
		}
	}
	if b, e := shape.Parse(strings.Repeat("\n", api.MaxText)); !zero(b) || e != api.ErrForm {
		t.Errorf("%d", e)
	}
}

// P8.6: texts that are nearly those of automata
func TestParseForm(t *testing.T) {
	good := "props 1 states 2 kind 1 marks 3\nstart 0 1\n0 1 1 0 5\n1 1 0 0 0\n"
	if _, e := shape.Parse(good); e != api.OK {
		t.Fatal(e)
	}
	bad := []string{
		"", "\n", "\n\n", "start\n", "props 0 states 0 kind 1 marks 0\n", "props 0 states 0 kind 1 marks 0\n\n", "props 0 states 0 kind 1 marks 0\nstart", "props 0 states 0 kind 1 marks 0\nstart \n", "props 0 states 0 kind 1 marks 0\nstart\n\n",
		"props 0 states 0 kind 1 marks 0 \nstart\n", " props 0 states 0 kind 1 marks 0\nstart\n", "props 0 states 0 kind 1 marks 0\n start\n", "props 0 states 0 kind 1\nstart\n", "props 0 states 0 kind 1 marks\nstart\n", "props 0 states 0 kind 1 marks 0 0\nstart\n",
		"states 0 props 0 kind 1 marks 0\nstart\n", "props 0 states 0 marks 1 kind 0\nstart\n", "Props 0 states 0 kind 1 marks 0\nstart\n", "props 0 states 0 kind 1 marks 0\nStart\n", "props 0 states 0 kind 1 marks 0\nstart\nstart\n", "props 0 states 0 kind 1 marks 0\n0 0 0 0 0\n",
		"props 0 states 0 kind 1 marks 0\r\nstart\r\n", "props 0\tstates 0 kind 1 marks 0\nstart\n", "props 0 states 0 kind 1 marks 0 start\n", "start\nprops 0 states 0 kind 1 marks 0\n", "props 0 states 0 kind 1 marks 0\nstart\n0 0 0 0\n", "props 0 states 0 kind 1 marks 0\nstart\n0 0 0 0 0 0\n",
	}
	for _, number := range []string{"", "01", "00", "-1", "-0", "+1", "1.0", "1e1", "0x1", "1_0", "x", "1152921504606846977", "9223372036854775808", "99999999999999999999", " 1", "1 ", "\u0661", "1\x00"} {
		for k, old := range []string{"props 1", "states 2", "kind 1", "marks 3", "start 0", "0 1\n", "\n0 ", "1 1 0 ", "1 0 5", "0 5\n"} {
			field := strings.Fields(old)[0]
			if k < 5 {
				field = strings.Fields(old)[1]
			}
			bad = append(bad, strings.Replace(good, old, strings.Replace(old, field, number, 1), 1))
		}
	}
	for i := range len(good) {
		bad = append(bad, good[:i], good[:i]+" "+good[i:], good[:i]+"\n"+good[i:], good[:i]+"x"+good[i:])
	}
	bad = append(bad, good+" ", good+"x", good+"0", good+"\n", good+good)
	for _, text := range bad {
		if text == good[:strings.Index(good, "1 1 0 0 0")] || text == good[:strings.Index(good, "0 1 1 0 5")] {
			continue // a text with fewer edges
		}
		if a, e := shape.Parse(text); !zero(a) || e != api.ErrForm {
			t.Errorf("Parse(%q) = %v, %d", text, a, e)
		}
	}
}

// P8.6: texts of automata that are not valid
func TestParseInvalid(t *testing.T) {
	for _, text := range []string{
		"props 7 states 0 kind 1 marks 0\nstart\n", "props 0 states 3001 kind 1 marks 0\nstart\n", "props 0 states 0 kind 6 marks 0\nstart\n", "props 0 states 0 kind 1 marks 41\nstart\n", "props 0 states 0 kind 0 marks 0\nstart\n", "props 0 states 0 kind 3 marks 1\nstart\n",
		"props 0 states 1 kind 1 marks 0\nstart 1\n", "props 0 states 2 kind 1 marks 0\nstart 1 0\n", "props 0 states 1 kind 1 marks 0\nstart 0 0\n", "props 0 states 1 kind 1 marks 0\nstart\n1 0 0 0 0\n", "props 0 states 1 kind 1 marks 0\nstart\n0 1 0 0 0\n",
		"props 1 states 1 kind 1 marks 0\nstart\n0 0 2 0 0\n", "props 1 states 1 kind 1 marks 0\nstart\n0 0 0 1 0\n", "props 1 states 1 kind 1 marks 1\nstart\n0 0 0 0 2\n",
		"props 1152921504606846976 states 0 kind 1 marks 0\nstart\n", "props 0 states 1152921504606846976 kind 1 marks 0\nstart\n", "props 0 states 0 kind 1152921504606846976 marks 0\nstart\n", "props 0 states 0 kind 1 marks 1152921504606846976\nstart\n",
		"props 0 states 1 kind 1 marks 0\nstart 1152921504606846976\n", "props 0 states 1 kind 1 marks 0\nstart\n0 0 0 0 1152921504606846976\n", "props 0 states 1 kind 1 marks 0\nstart\n1152921504606846976 0 0 0 0\n",
	} {
		if a, e := shape.Parse(text); !zero(a) || e != api.ErrArg {
			t.Errorf("Parse(%q) = %v, %d", text, a, e)
		}
	}
}
