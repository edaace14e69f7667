package graph

import "slices"

// painter finds marks with which, by the parity condition, the same infinite paths are accepted as with the old ones: the greatest mark that a path meets infinitely often is even. No mark counts as the odd one below all others.
type painter struct {
	next, mark [][]int
	splits     *Splitter
	parts      int
	part       []int   // for each node the number of the part that it was found in at last
	paint      [][]int // the new marks
}

// Paint returns, given for each node those to which it has arcs and the marks of these, other marks with which the same paths are accepted, and how many there are. There are as few as possible.
func Paint(next, mark [][]int) (paint [][]int, marks int) {
	p := &painter{next: next, mark: mark, splits: NewSplitter(len(next)), part: make([]int, len(next))}
	limit := 0
	for _, row := range mark {
		p.paint = append(p.paint, slices.Repeat([]int{None}, len(row)))
		for _, m := range row {
			limit = max(limit, m+1)
		}
	}
	most := None
	for _, part := range p.below(UpTo(len(next)), limit) {
		most = max(most, p.cover(part, limit))
	}
	return p.paint, most + 1
}

// below divides nodes into the parts that are connected by arcs with marks below a limit.
func (p *painter) below(nodes []int, limit int) [][]int {
	degree := func(s int) int { return len(p.next[s]) }
	parts := p.splits.Split(nodes, degree, func(s, g int) int {
		if p.mark[s][g] >= limit {
			return None
		}
		return p.next[s][g]
	})
	for _, part := range parts {
		p.parts++
		for _, s := range part {
			p.part[s] = p.parts
		}
	}
	return parts
}

// cover paints the arcs within a part that have marks below a limit, and returns the greatest new mark. A smaller part is one that is still connected without the greatest old mark. The arcs outside of all smaller parts share the greatest new mark: a path that stays here and takes one of them infinitely often takes one with the greatest old mark infinitely often.
func (p *painter) cover(part []int, limit int) int {
	inner := p.inner(part, limit)
	top := None
	for _, x := range inner {
		top = max(top, p.mark[x.node][x.arc])
	}
	if top == None {
		return None
	}
	smaller := p.below(part, top)
	outer := slices.DeleteFunc(inner, func(x place) bool { return p.mark[x.node][x.arc] < top && p.isInner(x) })
	most := None
	for _, small := range smaller {
		most = max(most, p.cover(small, top))
	}
	if (most-top)%2 != 0 {
		most++
	}
	for _, x := range outer {
		p.paint[x.node][x.arc] = most
	}
	return most
}

// inner returns the arcs within a part that have marks below a limit.
func (p *painter) inner(part []int, limit int) []place {
	var list []place
	for _, s := range part {
		for g := range p.next[s] {
			if x := (place{s, g}); p.mark[s][g] < limit && p.isInner(x) {
				list = append(list, x)
			}
		}
	}
	return list
}

// isInner reports whether an arc leads to the part of its node.
func (p *painter) isInner(x place) bool { return p.part[p.next[x.node][x.arc]] == p.part[x.node] }
