package ltl_test

import (
	"slices"
	"strings"
	"testing"

	"lodesman/api"
	"lodesman/ltl"
)

// names are the propositions of the tests.
var names = []string{"p", "q", "r"}

// arity is the number of arguments of each operator, by its number.
var arity = []int{0, 0, 0, 1, 2, 2, 2, 2, 1, 1, 1, 2, 2, 2}

// symbol is how each operator is written, by its number.
var symbol = []string{"true", "false", "", "!", "&", "|", "->", "<->", "X", "F", "G", "U", "R", "W"}

func node(op int, args ...api.Formula) api.Formula { return api.Formula{Op: op, Args: args} }

func prop(i int) api.Formula { return api.Formula{Op: api.Var, Var: i} }

// repeated is f behind n times the same operator.
func repeated(op, n int, f api.Formula) api.Formula {
	for range n {
		f = node(op, f)
	}
	return f
}

// doubled is a full tree of n levels whose lists share memory.
func doubled(op, n int) api.Formula {
	f := prop(0)
	for range n {
		f = node(op, f, f)
	}
	return f
}

// endless is a formula that contains itself.
func endless(op int) api.Formula {
	args := make([]api.Formula, arity[op])
	for i := range args {
		args[i] = api.Formula{Op: op, Args: args}
	}
	return args[0]
}

func read(t *testing.T, text string) api.Formula {
	t.Helper()
	f, e := ltl.Parse(names, text)
	if e != api.OK {
		t.Fatalf("Parse(%q): %d", text, e)
	}
	return f
}

func show(t *testing.T, f api.Formula) string {
	t.Helper()
	s, e := ltl.Print(names, f)
	if e != api.OK {
		t.Fatalf("Print(%v): %d", f, e)
	}
	return s
}

// zero reports whether f is the zero value, as a result beside an error has to be.
func zero(f api.Formula) bool { return f.Op == 0 && f.Var == 0 && len(f.Args) == 0 }

// identical compares two trees, by the definition.
func identical(f, g api.Formula) bool {
	return f.Op == g.Op && f.Var == g.Var && slices.EqualFunc(f.Args, g.Args, identical)
}

// copied is a copy of f that shares nothing with it.
func copied(f api.Formula) api.Formula {
	args := slices.Clone(f.Args)
	for i, g := range args {
		args[i] = copied(g)
	}
	return api.Formula{Op: f.Op, Var: f.Var, Args: args}
}

// spoil overwrites all the memory of f's lists.
func spoil(f api.Formula) {
	for i, g := range f.Args {
		spoil(g)
		f.Args[i] = api.Formula{Op: -1, Var: -1}
	}
}

// count is the number of nodes of f.
func count(f api.Formula) int {
	n := 1
	for _, g := range f.Args {
		n += count(g)
	}
	return n
}

// full is f in a syntax with all parentheses.
func full(f api.Formula) string {
	switch {
	case f.Op == api.Var:
		return names[f.Var]
	case arity[f.Op] == 0:
		return symbol[f.Op]
	case arity[f.Op] == 1:
		return symbol[f.Op] + "(" + full(f.Args[0]) + ")"
	}
	return "((" + full(f.Args[0]) + ")" + symbol[f.Op] + "(" + full(f.Args[1]) + "))"
}

// small returns all formulas over two propositions with at most most nodes.
func small(most int) []api.Formula {
	bySize := [][]api.Formula{nil, {node(api.True), node(api.False), prop(0), prop(1)}}
	for size := 2; size <= most; size++ {
		var list []api.Formula
		for op, n := range arity {
			switch n {
			case 1:
				for _, f := range bySize[size-1] {
					list = append(list, node(op, f))
				}
			case 2:
				list = append(list, pairs(op, bySize, size-1)...)
			}
		}
		bySize = append(bySize, list)
	}
	return slices.Concat(bySize...)
}

// pairs returns the formulas with a binary operator whose arguments have that many nodes together.
func pairs(op int, bySize [][]api.Formula, nodes int) []api.Formula {
	var list []api.Formula
	for left := 1; left < nodes; left++ {
		for _, f := range bySize[left] {
			for _, g := range bySize[nodes-left] {
				list = append(list, node(op, f, g))
			}
		}
	}
	return list
}

// generator makes formulas that look random but are the same in every run.
type generator uint32

func (g *generator) below(n int) int {
	*g = *g*1664525 + 1013904223
	return int(*g>>8) % n
}

// formula makes one with exactly that many nodes, over three propositions.
func (g *generator) formula(nodes int) api.Formula {
	if nodes == 1 {
		if i := g.below(5); i < 2 {
			return node(i)
		}
		return prop(g.below(3))
	}
	op := 3 + g.below(11)
	if nodes == 2 || arity[op] == 1 {
		for arity[op] != 1 {
			op = 3 + g.below(11)
		}
		return node(op, g.formula(nodes-1))
	}
	left := 1 + g.below(nodes-2)
	return node(op, g.formula(left), g.formula(nodes-1-left))
}

// samples are formulas of all sizes up to the limit.
func samples() []api.Formula {
	list := small(4)
	g := generator(1)
	for size := 1; size <= api.MaxNodes; size++ {
		for range 20 {
			list = append(list, g.formula(size))
		}
	}
	return list
}

// invalid are formulas that no function accepts.
func invalid() []api.Formula {
	list := []api.Formula{
		{Op: -1}, {Op: 14}, {Op: 1 << 62}, {Op: -1 << 63},
		{Op: api.Var, Var: -1}, {Op: api.Var, Var: 6}, {Op: api.Var, Var: -1 << 63}, {Op: api.Var, Var: 1 << 62},
		node(api.Not, api.Formula{Op: 99}),
		node(api.And, prop(0), api.Formula{Op: api.Var, Var: 6}),
		node(api.And, api.Formula{Op: api.True, Var: 1}, prop(0)),
		repeated(api.Not, api.MaxNodes, prop(0)),
		repeated(api.Not, 1<<16, prop(0)),
		doubled(api.And, 5),
		doubled(api.Iff, 100),
		endless(api.Not), endless(api.Until),
	}
	for op, n := range arity {
		for other := range 5 {
			f := api.Formula{Op: op, Args: make([]api.Formula, other)}
			if other != n {
				list = append(list, f)
			}
			if other == n && op != api.Var {
				f.Var = 1
				list = append(list, f)
				f.Var = -1
				list = append(list, f)
			}
		}
		list = append(list, api.Formula{Op: op, Args: make([]api.Formula, 100000)})
	}
	return list
}

// enclosures are the pairs of positions of matching parentheses in a text.
func enclosures(text string) [][2]int {
	var open []int
	var list [][2]int
	for i, c := range text {
		switch c {
		case '(':
			open = append(open, i)
		case ')':
			list = append(list, [2]int{open[len(open)-1], i})
			open = open[:len(open)-1]
		}
	}
	return list
}

// without is text with blanks instead of the two bytes.
func without(text string, at [2]int) string {
	return text[:at[0]] + " " + text[at[0]+1:at[1]] + " " + text[at[1]+1:]
}

// unary is a chain of n prefix operators before p.
func unary(n int) string { return strings.Repeat("!", n) + "p" }
