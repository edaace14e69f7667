package improve

import (
	"container/heap"
	"slices"

	"lodesman/graph"
)

// step improves a strategy by all moves at once that make no value smaller: player 0 has the choice among these, player 1 among all of its moves. What the positions gain by that is found from the smallest gain on: it is known for a position of player 1 as soon as it is for one of its successors, for a position of player 0 when it is for all that it may go to. Where it is never known, plays need not end: these positions are won.
type step struct {
	*climb
	agenda
	open []bool // the positions whose gains are to be found
	ways []int  // for each open position of player 0 to how many successors it may go whose gains are not known
	sum  []int  // a gain that is being computed
}

func newStep(c *climb) *step {
	n := len(c.Next)
	return &step{
		climb:  c,
		agenda: agenda{gain: c.zeros(len(c.value[0])), at: make([]int, n)},
		open:   make([]bool, n),
		ways:   make([]int, n),
	}
}

// take improves the strategy, given the positions whose values could be raised, and returns those that may be worth more because of that.
func (s *step) take(list []int) []int {
	met := s.meet(list)
	for _, v := range met {
		for _, w := range s.Next[v] {
			if !s.won[w] && !s.open[w] && s.keeps(v, w) {
				s.offer(v, w)
			}
		}
	}
	for s.Len() > 0 {
		s.close(heap.Pop(&s.agenda).(int))
	}
	s.winOpen(met)
	var raised []int
	for _, v := range met {
		raised = append(raised, s.raisedBy(v)...)
	}
	return raised
}

// meet opens all positions that can gain something: those that are given, and those from which a move that makes the value no smaller leads to one that can.
func (s *step) meet(list []int) []int {
	var met graph.Queue
	add := func(v int) {
		if !s.open[v] {
			s.enter(v)
			met.Add(v)
		}
	}
	for _, v := range list {
		add(v)
	}
	for w := range met.All() {
		for _, v := range s.before[w] {
			if !s.open[v] && !s.won[v] && s.keeps(v, w) && s.goesOn(v) {
				add(v)
			}
		}
	}
	return met
}

// goesOn reports whether player 0 has no reason to end plays at v: it has not if player 1 cannot make the value smaller.
func (s *step) goesOn(v int) bool {
	return s.Owner[v] == 0 || !slices.ContainsFunc(s.Next[v], func(w int) bool { return !s.keeps(v, w) })
}

// enter opens a position.
func (s *step) enter(v int) {
	s.open[v] = true
	s.at[v] = none
	clear(s.gain[v])
	s.ways[v] = 0
	for _, w := range s.Next[v] {
		if s.keeps(v, w) {
			s.ways[v]++
		}
	}
}

// offer tells an open position what it gains if it is left for w.
func (s *step) offer(v, w int) {
	s.sum = append(s.sum[:0], s.value[w]...)
	s.sum[s.place[v]] += s.weight(v)
	for i, x := range s.value[v] {
		s.sum[i] -= x
	}
	c := slices.Compare(s.sum, s.gain[v])
	switch {
	case s.Owner[v] == 0:
		if c > 0 {
			copy(s.gain[v], s.sum)
		}
		s.ways[v]--
		if s.ways[v] == 0 {
			heap.Push(&s.agenda, v)
		}
	case s.at[v] == none:
		copy(s.gain[v], s.sum)
		heap.Push(&s.agenda, v)
	case c < 0:
		copy(s.gain[v], s.sum)
		heap.Fix(&s.agenda, s.at[v])
	}
}

// close gives a position what it gains, and tells those that may be left for it.
func (s *step) close(w int) {
	s.open[w] = false
	var from []int
	for _, v := range s.before[w] {
		if s.open[v] && s.keeps(v, w) {
			from = append(from, v)
		}
	}
	for i, x := range s.gain[w] {
		s.value[w][i] += x
	}
	for _, v := range from {
		s.offer(v, w)
	}
}

// winOpen notes that the positions that are still open are won: player 0 goes on to open ones, or to those that have been won before.
func (s *step) winOpen(met []int) {
	var list, choices []int
	for _, v := range met {
		if s.open[v] {
			k := slices.IndexFunc(s.Next[v], func(w int) bool { return s.won[w] || s.open[w] && s.keeps(v, w) })
			list, choices = append(list, v), append(choices, s.Next[v][k])
		}
	}
	for i, v := range list {
		s.open[v] = false
		s.win(v, choices[i])
	}
}

// agenda is a heap of positions, the one with the smallest gain first.
type agenda struct {
	gain [][]int
	list []int
	at   []int // for each position its place in the list; none before it has been put there
}

// Len is called by package heap, as are the methods behind it.
func (a *agenda) Len() int { return len(a.list) }

// Less compares the gains of two positions.
func (a *agenda) Less(i, j int) bool {
	return slices.Compare(a.gain[a.list[i]], a.gain[a.list[j]]) < 0
}

// Swap exchanges two positions.
func (a *agenda) Swap(i, j int) {
	a.list[i], a.list[j] = a.list[j], a.list[i]
	a.at[a.list[i]], a.at[a.list[j]] = i, j
}

// Push adds a position.
func (a *agenda) Push(x any) {
	v := x.(int)
	a.at[v] = len(a.list)
	a.list = append(a.list, v)
}

// Pop removes the last position.
func (a *agenda) Pop() any {
	last := len(a.list) - 1
	v := a.list[last]
	a.list = a.list[:last]
	return v
}
