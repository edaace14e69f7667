package shape

import (
	"cmp"
	"slices"

	"lodesman/api"
	"lodesman/letters"
)

// distinct sorts a list and removes duplicates.
func distinct[T any](list []T, compare func(a, b T) int) []T {
	slices.SortFunc(list, compare)
	return slices.CompactFunc(list, func(a, b T) bool { return compare(a, b) == 0 })
}

// arrow is an edge as its state sees it.
type arrow struct {
	to, marks int
	letters   letters.Set
}

// arrows returns for each state its edges.
func arrows(a api.Automaton) [][]arrow {
	out := make([][]arrow, a.States)
	for _, e := range a.Edges {
		out[e.From] = append(out[e.From], arrow{to: e.To, marks: e.Marks, letters: letters.Of(e, a.Props)})
	}
	return out
}

// joined sorts the edges of a state and makes one of those that differ in their letters only.
func joined(list []arrow) []arrow {
	slices.SortFunc(list, func(e, f arrow) int {
		return cmp.Or(cmp.Compare(e.to, f.to), cmp.Compare(e.marks, f.marks))
	})
	var short []arrow
	for _, e := range list {
		last := len(short) - 1
		if last >= 0 && short[last].to == e.to && short[last].marks == e.marks {
			short[last].letters |= e.letters
		} else {
			short = append(short, e)
		}
	}
	return short
}
