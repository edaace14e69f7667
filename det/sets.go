package det

import (
	"lodesman/api"
	"lodesman/shape"
)

// mostSets is how many steps are spent on sets of states. Safe of 8 states and Breakpoint of 5 need far fewer.
const mostSets = 1 << 28

// power computes sets of states.
type power struct {
	*table
	is []bool // for each state whether it is in the set that is being computed
}

func newPower(a api.Automaton, labels []int) *power {
	return &power{table: newTable(a, labels), is: make([]bool, a.States)}
}

// behind returns the states behind those of a set, by edges with labels up to most.
func (p *power) behind(set []int, group, most int) []int {
	clear(p.is)
	for _, s := range set {
		for _, x := range p.out[s][group] {
			if x.label <= most {
				p.is[x.to] = true
			}
		}
	}
	var next []int
	for s, is := range p.is {
		if is {
			next = append(next, s)
		}
	}
	return next
}

// subset is Subset of a valid automaton.
func subset(a api.Automaton) (api.Automaton, api.Errno) {
	p := newPower(a, make([]int, len(a.Edges)))
	d, ok := p.explored(packed(a.Start), min(api.MaxStates, api.MaxEdges>>a.Props), func(state string) step {
		set := unpacked(state)
		return func(group int) (string, int, bool) {
			return packed(p.behind(set, group, 0)), none, true
		}
	})
	if !ok {
		return api.Automaton{}, api.ErrFull
	}
	b := api.Automaton{Props: a.Props, States: len(d.next), Start: []int{0}, Kind: api.General}
	for s, next := range d.next {
		for l, g := range d.group {
			b.Edges = append(b.Edges, api.Edge{From: s, To: next[g], Care: 1<<a.Props - 1, Bits: l})
		}
	}
	return b, api.OK
}

// safe is Safe of a valid automaton. When it is trimmed all its states are live, so that all letters up to some position are a prefix of a word if they lead to any state.
func safe(a api.Automaton) (api.Automaton, api.Errno) {
	a, _ = shape.Trim(a)
	p := newPower(a, make([]int, len(a.Edges)))
	d, ok := p.explored(packed(a.Start), p.patience(mostSets), func(state string) step {
		set := unpacked(state)
		return func(group int) (string, int, bool) {
			next := p.behind(set, group, 0)
			return packed(next), none, len(next) > 0
		}
	})
	if !ok {
		return api.Automaton{}, api.ErrFull
	}
	return d.automaton(api.General, 0)
}

// breakpoint is Breakpoint of a valid automaton. Its states are a set, and the part of the set that has been reached without the mark since the last breakpoint. When that part becomes empty, all runs have met the mark: this is a breakpoint again.
func breakpoint(a api.Automaton) (api.Automaton, api.Errno) {
	a, _ = shape.Trim(a)
	var labels []int
	for _, e := range a.Edges {
		labels = append(labels, e.Marks)
	}
	p := newPower(a, labels)
	d, ok := p.explored(joined(a.Start, a.Start), p.patience(mostSets), func(state string) step {
		set, part := parted(state)
		return func(group int) (string, int, bool) {
			next, left := p.behind(set, group, 1), p.behind(part, group, 0)
			if len(left) == 0 {
				return joined(next, next), 0, true
			}
			return joined(next, left), none, true
		}
	})
	if !ok {
		return api.Automaton{}, api.ErrFull
	}
	return d.automaton(api.CoBuchi, 1)
}

// joined returns a string that identifies two lists.
func joined(list, other []int) string {
	return packed([]int{len(list)}) + packed(list) + packed(other)
}

// parted returns the lists that a string identifies.
func parted(text string) (list, other []int) {
	all := unpacked(text)
	end := 1 + all[0]
	return all[1:end], all[end:]
}
