package shape

import (
	"cmp"
	"strconv"

	"lodesman/api"
)

// partition divides states into classes, and a class again when its states turn out to have other edges.
type partition struct {
	out     [][]arrow
	before  [][]int // for each state those that have an edge to it
	class   []int
	members [][]int // of each class
	touched []bool  // for each state whether it has an edge to a state whose class is new
	waiting []int   // the classes with touched states
	waits   []bool  // for each class whether it is in waiting
}

// colours is Colours of a valid automaton.
func colours(a api.Automaton) []int {
	p := newPartition(a)
	for len(p.waiting) > 0 {
		c := p.waiting[0]
		p.waiting = p.waiting[1:]
		p.waits[c] = false
		p.divide(c)
	}
	return numbered(p.class)
}

// newPartition returns the partition into one class, all of whose states are touched.
func newPartition(a api.Automaton) *partition {
	p := &partition{out: arrows(a), before: make([][]int, a.States), class: make([]int, a.States), touched: make([]bool, a.States)}
	for _, e := range a.Edges {
		p.before[e.To] = append(p.before[e.To], e.From)
	}
	all := make([]int, a.States)
	for s := range all {
		all[s] = s
		p.before[s] = distinct(p.before[s], cmp.Compare)
	}
	p.members, p.waits = [][]int{all}, []bool{false}
	for s := range all {
		p.touch(s)
	}
	return p
}

// touch marks a state as one whose edges may differ now from those of its class.
func (p *partition) touch(s int) {
	p.touched[s] = true
	if c := p.class[s]; !p.waits[c] {
		p.waits[c] = true
		p.waiting = append(p.waiting, c)
	}
}

// divide splits a class. The largest part remains the class: so a state is moved only if its class becomes half as large at least, and that does not happen often.
func (p *partition) divide(c int) {
	parts := p.parts(c)
	largest := 0
	for i, part := range parts {
		if len(part) > len(parts[largest]) {
			largest = i
		}
	}
	p.members[c] = parts[largest]
	first := len(p.members)
	for i, part := range parts {
		if i != largest {
			p.move(part)
		}
	}
	for _, part := range p.members[first:] {
		for _, s := range part {
			for _, t := range p.before[s] {
				p.touch(t)
			}
		}
	}
}

// move makes these states a new class.
func (p *partition) move(part []int) {
	for _, s := range part {
		p.class[s] = len(p.members)
	}
	p.members, p.waits = append(p.members, part), append(p.waits, false)
}

// parts divides a class by the edges of its states. Those that are not touched still have the same ones, and no touched state has these: it has an edge to a class that is new.
func (p *partition) parts(c int) [][]int {
	if len(p.members[c]) == 1 {
		p.touched[p.members[c][0]] = false
		return [][]int{p.members[c]}
	}
	var list [][]int
	numbers := map[string]int{}
	for _, s := range p.members[c] {
		key := ""
		if p.touched[s] {
			key = p.signature(s)
		}
		p.touched[s] = false
		if _, ok := numbers[key]; !ok {
			numbers[key] = len(list)
			list = append(list, nil)
		}
		list[numbers[key]] = append(list[numbers[key]], s)
	}
	return list
}

// signature returns a string that two states have in common if and only if they have, for each letter, the same edges to the same classes.
func (p *partition) signature(s int) string {
	list := make([]arrow, 0, len(p.out[s]))
	for _, e := range p.out[s] {
		e.to = p.class[e.to]
		list = append(list, e)
	}
	list = joined(list)
	key := []byte{'.'}
	for _, e := range list {
		for _, x := range []uint64{uint64(e.to), uint64(e.marks), uint64(e.letters)} {
			key = append(strconv.AppendUint(key, x, 36), ' ')
		}
	}
	return string(key)
}

// numbered numbers classes in the order of their first elements.
func numbered(class []int) []int {
	numbers := map[int]int{}
	list := make([]int, len(class))
	for i, c := range class {
		if _, ok := numbers[c]; !ok {
			numbers[c] = len(numbers)
		}
		list[i] = numbers[c]
	}
	return list
}

// quotient returns the automaton whose states are the classes of a, with the edges of the first state of each.
func quotient(a api.Automaton, class []int) api.Automaton {
	q := api.Automaton{Props: a.Props, Kind: a.Kind, Marks: a.Marks}
	for _, s := range a.Start {
		q.Start = append(q.Start, class[s])
	}
	q.Start = distinct(q.Start, cmp.Compare)
	out := outgoing(a)
	met := map[api.Edge]bool{}
	for s, c := range class {
		if c < q.States {
			continue
		}
		q.States++
		for _, e := range out[s] {
			e.From, e.To = c, class[e.To]
			if !met[e] {
				met[e] = true
				q.Edges = append(q.Edges, e)
			}
		}
	}
	return q
}
