package improve_test

import (
	"slices"
	"testing"

	"lodesman/api"
	"lodesman/improve"
)

// weights are numbers for the positions of a game with which values become numbers: those of greater priorities outweigh all others together. Beside them is the number of which they are powers.
func weights(x api.Game) (list []int, base int) {
	base = len(x.Next) + 1
	priorities := slices.Compact(slices.Sorted(slices.Values(x.Priority)))
	for _, q := range x.Priority {
		weight := 1 - q%2*2
		for range slices.Index(priorities, q) {
			weight *= base
		}
		list = append(list, weight)
	}
	return list, base
}

// worth is what positions are worth to player 0 if it may end plays, as numbers: raised from 0 on until nothing changes. Where it wins it is not raised.
func worth(x api.Game, won []bool) []int {
	const most = 1 << 60
	weight, _ := weights(x)
	list := make([]int, len(x.Next))
	for v, is := range won {
		if is {
			list[v] = most
		}
	}
	for again := true; again; {
		again = false
		for v, next := range x.Next {
			if won[v] {
				continue
			}
			best := list[next[0]]
			for _, w := range next {
				if x.Owner[v] == 0 {
					best = max(best, list[w])
				} else {
					best = min(best, list[w])
				}
			}
			if best+weight[v] > list[v] {
				list[v], again = best+weight[v], true
			}
		}
	}
	return list
}

// The values in the end, on which it depends that improving ends
func TestValues(t *testing.T) {
	g := generator(21)
	seen := map[bool]int{}
	for range 20000 {
		x := g.game(2+g.below(8), 1+g.below(6), 1+g.below(3))
		choice := g.strategy(x, 0)
		won, value := improve.Values(x, choice)
		_, base := weights(x)
		want := worth(x, won)
		for v, list := range value {
			if won[v] {
				continue
			}
			n := 0
			for _, k := range list {
				n = n*base + k
			}
			if n != want[v] {
				t.Fatalf("%v from %v: %v at %d, want %d", x, choice, list, v, want[v])
			}
			seen[n > 0]++
		}
	}
	if seen[true] < 2000 || seen[false] < 2000 {
		t.Errorf("%v", seen)
	}
}
