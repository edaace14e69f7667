package member

import (
	"math/bits"
	"slices"

	"lodesman/api"
)

// condition says which runs are accepted, by the marks that they meet infinitely often.
type condition interface {
	opposite() condition // accepts exactly the runs that this one does not accept
}

// every: all marks are met. This is Buchi and General.
type every struct{ marks int }

// missing: some mark is not met. This is CoBuchi.
type missing struct{ marks int }

// rabin: of some pair the second mark is met, and the first one is not.
type rabin struct{ marks int }

// streett: of each pair the first mark is met, or the second one is not.
type streett struct{ marks int }

// parity: the greatest mark is even; or, if odd is true, the greatest mark is odd or there is none.
type parity struct {
	marks int
	odd   bool
}

func (c every) opposite() condition   { return missing(c) }
func (c missing) opposite() condition { return every(c) }
func (c rabin) opposite() condition   { return streett(c) }
func (c streett) opposite() condition { return rabin(c) }
func (c parity) opposite() condition  { return parity{marks: c.marks, odd: !c.odd} }

// conditionOf returns the condition of a valid automaton.
func conditionOf(a api.Automaton) condition {
	switch a.Kind {
	case api.CoBuchi:
		return missing{a.Marks}
	case api.Rabin:
		return rabin{a.Marks}
	case api.Streett:
		return streett{a.Marks}
	case api.Parity:
		return parity{marks: a.Marks}
	}
	return every{a.Marks}
}

// demand asks for one of the marks of grant if one of ask is met, or, if ask is empty, in any case.
type demand struct{ ask, grant markSet }

// goal is a list of demands. A run is accepted if it meets all demands of one of the goals of its condition.
type goal []demand

// goalsOf returns the goals of a condition, where mark m is shown as the set one(m).
func goalsOf(c condition, one func(m int) markSet) []goal {
	var goals []goal
	switch c := c.(type) {
	case every:
		var g goal
		for m := range c.marks {
			g = append(g, demand{grant: one(m)})
		}
		goals = append(goals, g)
	case missing:
		for m := range c.marks {
			goals = append(goals, goal{{ask: one(m)}})
		}
	case rabin:
		for m := 0; m < c.marks; m += 2 {
			goals = append(goals, goal{{ask: one(m)}, {grant: one(m + 1)}})
		}
	case streett:
		var g goal
		for m := 0; m < c.marks; m += 2 {
			g = append(g, demand{ask: one(m + 1), grant: one(m)})
		}
		goals = append(goals, g)
	case parity:
		goals = append(goals, c.goal(one))
	}
	return goals
}

// goal asks behind each mark that is not accepted for a greater one that is.
func (c parity) goal(one func(m int) markSet) goal {
	var g goal
	var greater markSet
	for m := c.marks - 1; m >= 0; m-- {
		if m%2 == 1 == c.odd {
			greater = greater.with(one(m))
		} else {
			g = append(g, demand{ask: one(m), grant: greater})
		}
	}
	if !c.odd {
		g = append(g, demand{grant: greater})
	}
	return g
}

// both returns the goals that ask for one of the first list and one of the second list.
func both(list, other []goal) []goal {
	var goals []goal
	for _, g := range list {
		for _, h := range other {
			goals = append(goals, slices.Concat(g, h))
		}
	}
	return goals
}

// refused returns the marks that no run can meet if it meets all demands, and no marks but those of seen; it returns false if there is no such run.
func (g goal) refused(seen markSet) (set markSet, ok bool) {
	for _, d := range g {
		switch {
		case seen.meets(d.grant):
		case d.ask.empty():
			return markSet{}, false
		case seen.meets(d.ask):
			set = set.with(d.ask)
		}
	}
	return set, true
}

// needed returns marks with which a run meets all demands, whatever other marks of seen it meets. None of these is refused.
func (g goal) needed(seen markSet) markSet {
	var set markSet
	for _, d := range g {
		if d.ask.empty() || seen.meets(d.ask) {
			set = set.with(seen.common(d.grant).greatest())
		}
	}
	return set
}

// markSet is a set of marks of an edge of a product: marks of the first automaton and of the second one.
type markSet struct{ first, second int }

func firstMark(m int) markSet { return markSet{first: 1 << m} }

func secondMark(m int) markSet { return markSet{second: 1 << m} }

func (s markSet) empty() bool { return s.first|s.second == 0 }

func (s markSet) with(t markSet) markSet {
	return markSet{first: s.first | t.first, second: s.second | t.second}
}

func (s markSet) without(t markSet) markSet {
	return markSet{first: s.first &^ t.first, second: s.second &^ t.second}
}

func (s markSet) common(t markSet) markSet {
	return markSet{first: s.first & t.first, second: s.second & t.second}
}

func (s markSet) meets(t markSet) bool { return s.first&t.first|s.second&t.second != 0 }

// greatest returns the set of the greatest mark of each automaton.
func (s markSet) greatest() markSet {
	return markSet{first: highest(s.first), second: highest(s.second)}
}

// highest returns the highest bit that is set.
func highest(set int) int {
	if set == 0 {
		return 0
	}
	return 1 << (bits.Len(uint(set)) - 1)
}
