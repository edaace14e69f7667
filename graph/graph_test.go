package graph_test

import (
	"slices"
	"testing"

	"lodesman/graph"
)

// generator makes things that look random but are the same in every run.
type generator uint32

func (g *generator) below(n int) int {
	*g = *g*1664525 + 1013904223
	return int(*g>>8) % n
}

// arcs makes a graph with that many arcs.
func (g *generator) arcs(nodes, count int) [][]int {
	next := make([][]int, nodes)
	for range count {
		v := g.below(nodes)
		next[v] = append(next[v], g.below(nodes))
	}
	return next
}

// marks makes marks of arcs, or none.
func (g *generator) marks(next [][]int, count int) [][]int {
	mark := make([][]int, len(next))
	for v := range next {
		for range next[v] {
			mark[v] = append(mark[v], g.below(count+1)-1)
		}
	}
	return mark
}

// reach is, for the graph without some nodes, which node is reachable from which.
func reach(next [][]int, in []bool) [][]bool {
	to := make([][]bool, len(next))
	for v := range next {
		to[v] = make([]bool, len(next))
		to[v][v] = in[v]
		for _, w := range next[v] {
			if w != graph.None && in[v] && in[w] {
				to[v][w] = true
			}
		}
	}
	for k := range next {
		for v := range next {
			for w := range next {
				to[v][w] = to[v][w] || to[v][k] && to[k][w]
			}
		}
	}
	return to
}

// Split: the nodes of a part are reachable from each other, and later parts from none before; a splitter is used again
func TestSplit(t *testing.T) {
	g := generator(1)
	splitter := graph.NewSplitter(8)
	for range 2000 {
		next := g.arcs(8, g.below(20))
		var nodes []int
		in := make([]bool, 8)
		for v := range next {
			for k := range next[v] {
				if g.below(10) == 0 {
					next[v][k] = graph.None
				}
			}
			if in[v] = g.below(8) > 0; in[v] {
				nodes = append(nodes, v)
			}
		}
		degree := func(v int) int { return len(next[v]) }
		parts := splitter.Split(nodes, degree, func(v, k int) int { return next[v][k] })
		expectParts(t, next, in, parts)
		if len(nodes) == 8 && !slices.Equal(graph.Parts(next), graph.Numbers(8, parts)) {
			t.Fatalf("%v: %v and %v", next, graph.Parts(next), parts)
		}
	}
	if parts := splitter.Split(nil, nil, nil); len(parts) != 0 || len(graph.Parts(nil)) != 0 {
		t.Errorf("%v", parts)
	}
}

// expectParts checks parts by what is reachable.
func expectParts(t *testing.T, next [][]int, in []bool, parts [][]int) {
	t.Helper()
	to := reach(next, in)
	of := slices.Repeat([]int{graph.None}, len(next))
	for k, part := range parts {
		for _, v := range part {
			if of[v] != graph.None || !in[v] {
				t.Fatalf("%v without %v: %v", next, in, parts)
			}
			of[v] = k
		}
	}
	for v := range next {
		if in[v] != (of[v] != graph.None) {
			t.Fatalf("%v without %v: %v", next, in, parts)
		}
		for w := range next {
			if in[v] && in[w] && ((of[v] == of[w]) != (to[v][w] && to[w][v]) || to[v][w] && of[v] < of[w]) {
				t.Fatalf("%v without %v: %v", next, in, parts)
			}
		}
	}
}

// Parts: a path longer than calls should be nested
func TestLongPath(t *testing.T) {
	next := make([][]int, 1<<20)
	for v := range next {
		next[v] = []int{(v + 1) % len(next)}
	}
	part := graph.Parts(next)
	next[len(next)-1] = nil
	line := graph.Parts(next)
	for v := range next {
		if part[v] != 0 || line[v] != len(next)-1-v {
			t.Fatalf("%d: %d, %d", v, part[v], line[v])
		}
	}
}

func TestUpTo(t *testing.T) {
	if !slices.Equal(graph.UpTo(3), []int{0, 1, 2}) || len(graph.UpTo(0)) != 0 {
		t.Error("UpTo")
	}
}

// arc is an arc from a node, by its place in the list of that node.
type arc struct{ from, place int }

// circles are the sets of arcs that a path can take infinitely often, as bits.
func circles(next [][]int) (list []arc, sets []int) {
	for v := range next {
		for k := range next[v] {
			list = append(list, arc{v, k})
		}
	}
	for set := 1; set < 1<<len(list); set++ {
		chosen := make([][]int, len(next))
		in := make([]bool, len(next))
		for i, x := range list {
			if set>>i&1 == 1 {
				w := next[x.from][x.place]
				chosen[x.from] = append(chosen[x.from], w)
				in[x.from], in[w] = true, true
			}
		}
		to := reach(chosen, in)
		connected := true
		for v := range next {
			for w := range next {
				connected = connected && (!in[v] || !in[w] || to[v][w])
			}
		}
		if connected {
			sets = append(sets, set)
		}
	}
	return list, sets
}

// verdicts tells for each set of arcs whether its greatest mark is even.
func verdicts(list []arc, sets []int, mark [][]int) []bool {
	is := make([]bool, len(sets))
	for i, set := range sets {
		most := graph.None
		for k, x := range list {
			if set>>k&1 == 1 {
				most = max(most, mark[x.from][x.place])
			}
		}
		is[i] = most >= 0 && most%2 == 0
	}
	return is
}

// enough is whether marks below count can give the same verdicts.
func enough(next [][]int, list []arc, sets []int, want []bool, count int) bool {
	mark := make([][]int, len(next))
	for v := range next {
		mark[v] = slices.Repeat([]int{graph.None}, len(next[v]))
	}
	for {
		if slices.Equal(verdicts(list, sets, mark), want) {
			return true
		}
		k := 0
		for ; k < len(list); k++ {
			m := &mark[list[k].from][list[k].place]
			*m++
			if *m < count {
				break
			}
			*m = graph.None
		}
		if k == len(list) {
			return false
		}
	}
}

// Paint: the same paths are accepted, with as few marks as possible
func TestPaint(t *testing.T) {
	g := generator(2)
	fewer := make([]int, 6)
	for range 1500 {
		next := g.arcs(1+g.below(4), g.below(8))
		mark := g.marks(next, 1+g.below(7))
		paint, marks := graph.Paint(next, mark)
		list, sets := circles(next)
		want := verdicts(list, sets, mark)
		if !slices.Equal(verdicts(list, sets, paint), want) {
			t.Fatalf("%v, %v: %v", next, mark, paint)
		}
		for v := range paint {
			if len(paint[v]) != len(mark[v]) || len(paint[v]) > 0 && slices.Max(paint[v]) >= marks {
				t.Fatalf("%v, %v: %v, %d", next, mark, paint, marks)
			}
		}
		if marks > 0 && marks < 4 && enough(next, list, sets, want, marks-1) {
			t.Fatalf("%v, %v: %d marks are not needed", next, mark, marks)
		}
		fewer[marks]++
	}
	if fewer[0] < 100 || fewer[1] < 100 || fewer[2] < 20 || fewer[3] < 5 {
		t.Errorf("%v", fewer)
	}
}

// Paint: no nodes, no arcs, no marks, and marks that all are needed
func TestPaintCases(t *testing.T) {
	var next, mark [][]int
	for m := range 40 {
		next, mark = append(next, []int{max(m-1, 0), min(m+1, 39)}), append(mark, []int{m, m})
	}
	for _, c := range []struct {
		next, mark [][]int
		marks      int
	}{
		{nil, nil, 0}, {[][]int{nil, {}}, [][]int{nil, {}}, 0}, {[][]int{{1}, {}}, [][]int{{8}, {}}, 0}, {[][]int{{0}}, [][]int{{7}}, 0}, {[][]int{{0}}, [][]int{{-1}}, 0}, {[][]int{{0}}, [][]int{{8}}, 1},
		{[][]int{{0, 0}}, [][]int{{8, 7}}, 1}, {[][]int{{0, 0}}, [][]int{{8, 9}}, 2}, {[][]int{{0, 0, 0}}, [][]int{{8, 9, -1}}, 2}, {next, mark, 40},
	} {
		paint, marks := graph.Paint(c.next, c.mark)
		if marks != c.marks || len(paint) != len(c.next) {
			t.Errorf("%v, %v: %v, %d", c.next, c.mark, paint, marks)
		}
	}
}
