package det

import (
	"cmp"
	"slices"

	"lodesman/api"
	"lodesman/letters"
)

const none = -1

// arrow is an edge as its state sees it for one letter.
type arrow struct {
	to    int
	label int // what has to be known of the edge beside
}

// table tells where the edges of an automaton lead. Letters that are on the same edges form a group.
type table struct {
	props  int
	group  []int       // for each letter its group
	groups int         // how many groups there are
	out    [][][]arrow // for each state and each group the arrows, without duplicates
	cost   int         // of one step, for each group, from all states
}

// newTable returns the table of a, with a label for each edge.
func newTable(a api.Automaton, labels []int) *table {
	t := &table{props: a.Props, group: groups(a), out: make([][][]arrow, a.States)}
	samples := firsts(t.group)
	t.groups = len(samples)
	for s := range t.out {
		t.out[s] = make([][]arrow, t.groups)
	}
	for i, e := range a.Edges {
		for g, l := range samples {
			if letters.Has(e, l) {
				t.out[e.From][g] = append(t.out[e.From][g], arrow{to: e.To, label: labels[i]})
			}
		}
	}
	t.cost = 1 + t.groups*a.States
	for _, lists := range t.out {
		for g, list := range lists {
			lists[g] = distinct(list)
			t.cost += len(lists[g])
		}
	}
	return t
}

// distinct sorts arrows and removes duplicates.
func distinct(list []arrow) []arrow {
	slices.SortFunc(list, func(x, y arrow) int {
		return cmp.Or(cmp.Compare(x.to, y.to), cmp.Compare(x.label, y.label))
	})
	return slices.Compact(list)
}

// patience returns how many states are explored within that many steps, before the exploration is given up.
func (t *table) patience(steps int) int { return min(api.MaxStates, 1+steps/t.cost) }

// groups returns for each letter its group. Groups are numbered in the order of their first letters.
func groups(a api.Automaton) []int {
	group := make([]int, 1<<a.Props)
	met := map[[2]int]bool{}
	for _, e := range a.Edges {
		cube := [2]int{e.Care, e.Bits}
		if !met[cube] {
			met[cube] = true
			divide(group, e)
		}
	}
	return group
}

// divide tells the letters that an edge has from the others.
func divide(group []int, e api.Edge) {
	numbers := map[[2]int]int{}
	for l, g := range group {
		key := [2]int{g, 0}
		if letters.Has(e, l) {
			key[1] = 1
		}
		if _, ok := numbers[key]; !ok {
			numbers[key] = len(numbers)
		}
		group[l] = numbers[key]
	}
}

// firsts returns for each group its first letter.
func firsts(group []int) []int {
	var list []int
	for l, g := range group {
		if g == len(list) {
			list = append(list, l)
		}
	}
	return list
}
