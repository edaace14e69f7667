package tableau

import (
	"lodesman/api"
	"lodesman/ltl"
	"lodesman/rewrite"
)

// duty is what a formula may leave to the next position.
type duty int

const (
	nothing  duty = iota // it has no temporal operator
	passing              // its argument: Next
	lasting              // itself, perhaps for ever: Always, Release, Weak
	pressing             // itself, but not for ever: Finally, Until
)

func dutyOf(op int) duty {
	switch op {
	case api.Next:
		return passing
	case api.Always, api.Release, api.Weak:
		return lasting
	case api.Finally, api.Until:
		return pressing
	}
	return nothing
}

// set is a set of nodes of a table, as bits.
type set uint64

// mostNodes is how many nodes a set can tell apart. One formula has fewer.
const mostNodes = 64

func (s set) has(node int) bool { return s>>node&1 == 1 }

func only(node int) set { return 1 << node }

// node is a subformula: its operator, its proposition, and the numbers of its arguments (none if there is no such argument).
type node struct {
	op, prop, first, second int
}

const none = -1

// last returns the number of the last argument.
func (n node) last() int {
	if n.second == none {
		return n.first
	}
	return n.second
}

// table numbers the distinct subformulas of formulas in negation normal form, each behind its arguments.
type table struct {
	nodes   []node
	numbers map[node]int
	roots   []int // the formulas themselves
}

func newTable(list ...api.Formula) *table {
	t := &table{numbers: map[node]int{}}
	for _, f := range list {
		t.roots = append(t.roots, t.add(f))
	}
	return t
}

// add returns the number of a formula.
func (t *table) add(f api.Formula) int {
	n := node{op: f.Op, prop: f.Var, first: none, second: none}
	for k, g := range f.Args {
		i := t.add(g)
		if k == 0 {
			n.first = i
		} else {
			n.second = i
		}
	}
	if _, ok := t.numbers[n]; !ok {
		t.numbers[n] = len(t.nodes)
		t.nodes = append(t.nodes, n)
	}
	return t.numbers[n]
}

// weight returns the number of temporal formulas.
func (t *table) weight() int {
	count := 0
	for _, n := range t.nodes {
		if dutyOf(n.op) != nothing {
			count++
		}
	}
	return count
}

// pressing returns the formulas that must not be put off for ever.
func (t *table) pressing() []int {
	var list []int
	for i, n := range t.nodes {
		if dutyOf(n.op) == pressing {
			list = append(list, i)
		}
	}
	return list
}

// owe returns the obligations of which the formula i is the conjunction.
func (t *table) owe(i int) set {
	n := t.nodes[i]
	switch n.op {
	case api.True:
		return 0
	case api.And:
		return t.owe(n.first) | t.owe(n.second)
	}
	return only(i)
}

// start returns the obligations at position 0.
func (t *table) start() set {
	var owed set
	for _, i := range t.roots {
		owed |= t.owe(i)
	}
	return owed
}

// reduced leaves out obligations that others contain, so that there are fewer states: G g says g, and so does h R g.
func (t *table) reduced(owed set) set {
	left := owed
	for i, n := range t.nodes {
		if owed.has(i) && (n.op == api.Always || n.op == api.Release) {
			left &^= t.owe(n.last())
		}
	}
	return left
}

// prepared returns the table of formulas in negation normal form that are equivalent to those of a list. Simple ones are taken if they have neither a greater weight, which the limits of the document refer to, nor more nodes.
func prepared(list []api.Formula) (*table, api.Errno) {
	var normal, simple []api.Formula
	for _, f := range list {
		g, e := ltl.Nnf(f)
		if e != api.OK {
			return nil, e
		}
		h, _ := rewrite.Simple(g)
		h, e = ltl.Nnf(h)
		if e != api.OK {
			h = g
		}
		normal, simple = append(normal, g), append(simple, h)
	}
	t, s := newTable(normal...), newTable(simple...)
	if s.weight() <= t.weight() && len(s.nodes) <= len(t.nodes) {
		t = s
	}
	if len(t.nodes) > mostNodes {
		return nil, api.ErrFull
	}
	return t, api.OK
}
