package truth_test

import (
	"slices"
	"testing"

	"lodesman/api"
	"lodesman/ltl"
	"lodesman/word"
)

// names are the propositions of the tests.
var names = []string{"p", "q", "r"}

// prefixes and infixes are the operators as they are written.
var (
	prefixes = []string{"!", "X", "F", "G"}
	infixes  = []string{"&", "|", "->", "<->", "U", "R", "W"}
)

func read(t *testing.T, text string) api.Formula {
	t.Helper()
	f, e := ltl.Parse(names, text)
	if e != api.OK {
		t.Fatalf("Parse(%q): %d", text, e)
	}
	return f
}

func line(t *testing.T, text string) api.Word {
	t.Helper()
	w, e := word.Parse(text)
	if e != api.OK {
		t.Fatalf("Parse(%q): %d", text, e)
	}
	return w
}

func node(op int, args ...api.Formula) api.Formula { return api.Formula{Op: op, Args: args} }

func prop(i int) api.Formula { return api.Formula{Op: api.Var, Var: i} }

// chain is f behind n times the same operator.
func chain(op, n int, f api.Formula) api.Formula {
	for range n {
		f = node(op, f)
	}
	return f
}

// texts are all formulas over p and q with at most most nodes.
func texts(most int) []string {
	bySize := [][]string{nil, {"true", "false", "p", "q"}}
	for size := 2; size <= most; size++ {
		var list []string
		for _, op := range prefixes {
			for _, f := range bySize[size-1] {
				list = append(list, op+"("+f+")")
			}
		}
		for _, op := range infixes {
			for left := 1; left < size-1; left++ {
				list = append(list, joined(op, bySize[left], bySize[size-1-left])...)
			}
		}
		bySize = append(bySize, list)
	}
	return slices.Concat(bySize...)
}

// joined puts an operator between each formula of one list and each one of another.
func joined(op string, left, right []string) []string {
	var list []string
	for _, f := range left {
		for _, g := range right {
			list = append(list, "("+f+")"+op+"("+g+")")
		}
	}
	return list
}

// generator makes things that look random but are the same in every run.
type generator uint32

func (g *generator) below(n int) int {
	*g = *g*1664525 + 1013904223
	return int(*g>>8) % n
}

// text makes a formula with exactly that many nodes, over three propositions.
func (g *generator) text(nodes int) string {
	if nodes == 1 {
		return []string{"true", "false", "p", "q", "r", "p", "q", "r"}[g.below(8)]
	}
	if nodes == 2 || g.below(3) == 0 {
		return prefixes[g.below(len(prefixes))] + "(" + g.text(nodes-1) + ")"
	}
	left := 1 + g.below(nodes-2)
	return "(" + g.text(left) + ")" + infixes[g.below(len(infixes))] + "(" + g.text(nodes-1-left) + ")"
}

// word makes a word over three propositions with exactly that many letters.
func (g *generator) word(stem, loop int) api.Word {
	var w api.Word
	for range stem {
		w.Stem = append(w.Stem, g.below(8))
	}
	for range loop {
		w.Loop = append(w.Loop, g.below(8))
	}
	return w
}

// smallWords are all words over n propositions with at most most letters, in normal form or not, in the order of Differ.
func smallWords(n, most int) []api.Word {
	var list []api.Word
	letters := [][]int{{}}
	for size := 1; size <= most; size++ {
		var longer [][]int
		for _, l := range letters {
			for next := range 1 << n {
				longer = append(longer, append(slices.Clone(l), next))
			}
		}
		letters = longer
		for stem := range size {
			for _, l := range letters {
				list = append(list, api.Word{Stem: l[:stem], Loop: l[stem:]})
			}
		}
	}
	return list
}

// letter is the letter of w at position k.
func letter(w api.Word, k int) int {
	if k < len(w.Stem) {
		return w.Stem[k]
	}
	return w.Loop[(k-len(w.Stem))%len(w.Loop)]
}

// holds is the truth of f at position k, by the definition. Behind k, as many positions as w has letters have all suffixes that there are.
func holds(f api.Formula, w api.Word, k int) bool {
	end := k + len(w.Stem) + len(w.Loop)
	first := func(j int) bool { return holds(f.Args[0], w, j) }
	second := func(j int) bool { return holds(f.Args[1], w, j) }
	switch f.Op {
	case api.True:
		return true
	case api.Var:
		return letter(w, k)>>f.Var&1 == 1
	case api.Not:
		return !first(k)
	case api.And:
		return first(k) && second(k)
	case api.Or:
		return first(k) || second(k)
	case api.Implies:
		return !first(k) || second(k)
	case api.Iff:
		return first(k) == second(k)
	case api.Next:
		return first(k + 1)
	case api.Finally:
		return some(k, end, first)
	case api.Always:
		return every(k, end, first)
	case api.Until:
		return some(k, end, func(j int) bool { return second(j) && every(k, j, first) })
	case api.Release:
		return every(k, end, func(j int) bool { return second(j) || some(k, j, first) })
	case api.Weak:
		until := some(k, end, func(j int) bool { return second(j) && every(k, j, first) })
		return until || every(k, end, first)
	}
	return false
}

// some reports whether is is true of a number from from to to - 1.
func some(from, to int, is func(int) bool) bool {
	for j := from; j < to; j++ {
		if is(j) {
			return true
		}
	}
	return false
}

// every reports whether is is true of all numbers from from to to - 1.
func every(from, to int, is func(int) bool) bool {
	return !some(from, to, func(j int) bool { return !is(j) })
}

// identical reports whether a and b are written with the same lists.
func identical(a, b api.Word) bool {
	return slices.Equal(a.Stem, b.Stem) && slices.Equal(a.Loop, b.Loop)
}

// badFormulas are formulas that no function accepts.
func badFormulas() []api.Formula {
	wide := prop(0)
	for range 100 {
		wide = node(api.And, wide, wide)
	}
	endless := []api.Formula{{Op: api.Not}}
	endless[0].Args = endless
	return []api.Formula{
		{Op: -1}, {Op: 14}, {Op: 1 << 62}, {Op: -1 << 63},
		{Op: api.Var, Var: -1}, {Op: api.Var, Var: 6}, {Op: api.Var, Var: 1 << 62},
		{Op: api.True, Var: 1}, {Op: api.Not}, node(api.Var, prop(0)), node(api.Not, prop(0), prop(0)), node(api.And, prop(0)),
		node(api.Until, prop(0), node(api.Next, api.Formula{Op: 99})),
		{Op: api.Next, Var: 2, Args: []api.Formula{prop(0)}},
		chain(api.Next, api.MaxNodes, prop(0)), chain(api.Not, 1<<16, prop(0)), wide, endless[0],
		{Op: api.And, Args: make([]api.Formula, 100000)},
	}
}

// badWords are words that no function accepts.
func badWords() []api.Word {
	return []api.Word{
		{}, {Stem: []int{1}}, {Loop: []int{64}}, {Loop: []int{-1}}, {Stem: []int{64}, Loop: []int{0}}, {Stem: []int{-1 << 63}, Loop: []int{0}},
		{Stem: make([]int, 200), Loop: []int{0}}, {Loop: make([]int, 201)}, {Stem: make([]int, 100000), Loop: make([]int, 100000)},
	}
}
