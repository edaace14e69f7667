package det

import "slices"

// painter replaces the marks of a diagram by others with which, as an automaton of Kind Parity, it accepts the same runs. No mark counts as the odd one below all others.
type painter struct {
	*diagram
	splits *splitter
	parts  int
	part   []int   // for each state the number of the part that it was found in at last
	paint  [][]int // the new marks
}

// repaint replaces the marks of d by as few as possible and returns their number.
func repaint(d *diagram) int {
	p := &painter{diagram: d, splits: newSplitter(len(d.next)), part: make([]int, len(d.next))}
	limit := 0
	for _, row := range d.mark {
		p.paint = append(p.paint, slices.Repeat([]int{none}, len(row)))
		limit = max(limit, slices.Max(row)+1)
	}
	most := none
	for _, part := range p.below(upTo(len(d.next)), limit) {
		most = max(most, p.cover(part, limit))
	}
	d.mark = p.paint
	return most + 1
}

// below divides states into the parts that are connected by edges with marks below a limit.
func (p *painter) below(states []int, limit int) [][]int {
	degree := func(s int) int { return len(p.next[s]) }
	parts := p.splits.split(states, degree, func(s, g int) int {
		if p.mark[s][g] >= limit {
			return none
		}
		return p.next[s][g]
	})
	for _, part := range parts {
		p.parts++
		for _, s := range part {
			p.part[s] = p.parts
		}
	}
	return parts
}

// cover paints the edges within a part that have marks below a limit, and returns the greatest new mark. A smaller part is one that is still connected without the greatest old mark. The edges outside of all smaller parts share the greatest new mark: a run that stays here and takes one of them infinitely often takes one with the greatest old mark infinitely often.
func (p *painter) cover(part []int, limit int) int {
	inner := p.inner(part, limit)
	top := none
	for _, x := range inner {
		top = max(top, p.mark[x.node][x.arc])
	}
	if top == none {
		return none
	}
	smaller := p.below(part, top)
	outer := slices.DeleteFunc(inner, func(x place) bool { return p.mark[x.node][x.arc] < top && p.isInner(x) })
	most := none
	for _, small := range smaller {
		most = max(most, p.cover(small, top))
	}
	if (most-top)%2 != 0 {
		most++
	}
	for _, x := range outer {
		p.paint[x.node][x.arc] = most
	}
	return most
}

// inner returns the edges within a part that have marks below a limit.
func (p *painter) inner(part []int, limit int) []place {
	var list []place
	for _, s := range part {
		for g := range p.next[s] {
			if x := (place{s, g}); p.mark[s][g] < limit && p.isInner(x) {
				list = append(list, x)
			}
		}
	}
	return list
}

// isInner reports whether an edge leads to the part of its state.
func (p *painter) isInner(x place) bool { return p.part[p.next[x.node][x.arc]] == p.part[x.node] }
