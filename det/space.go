package det

import "iter"

// space is a list of states that grows while it is explored. A state is identified by a string.
type space struct {
	numbers map[string]int
	states  []string
}

// number returns the number of a state.
func (p *space) number(state string) int {
	n, ok := p.numbers[state]
	if !ok {
		n = len(p.states)
		p.numbers[state] = n
		p.states = append(p.states, state)
	}
	return n
}

// all yields each state, also those that are added meanwhile.
func (p *space) all() iter.Seq[string] {
	return func(yield func(state string) bool) {
		for at := 0; at < len(p.states); at++ {
			if !yield(p.states[at]) {
				return
			}
		}
	}
}

// step returns the state behind the letters of a group, and the mark of the edge to it; or false if there is no such state.
type step func(group int) (next string, mark int, ok bool)

// explored returns the diagram of the states that are reachable from one of them, or false if there are more than most. leave returns the step from a state.
func (t *table) explored(start string, most int, leave func(state string) step) (*diagram, bool) {
	d := &diagram{props: t.props, group: t.group}
	p := &space{numbers: map[string]int{}}
	p.number(start)
	for state := range p.all() {
		behind := leave(state)
		next, mark := make([]int, t.groups), make([]int, t.groups)
		for g := range t.groups {
			to, m, ok := behind(g)
			next[g], mark[g] = none, none
			if ok {
				next[g], mark[g] = p.number(to), m
			}
		}
		d.next, d.mark = append(d.next, next), append(d.mark, mark)
		if len(p.states) > most {
			return nil, false
		}
	}
	return d, true
}

// packed returns a string that identifies a list of numbers below 2^16.
func packed(list []int) string {
	text := make([]byte, 0, 2*len(list))
	for _, n := range list {
		text = append(text, byte(n>>8), byte(n))
	}
	return string(text)
}

// unpacked returns the list that a string identifies.
func unpacked(text string) []int {
	list := make([]int, 0, len(text)/2)
	for i := 0; i < len(text); i += 2 {
		list = append(list, int(text[i])<<8|int(text[i+1]))
	}
	return list
}
