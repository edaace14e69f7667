package shape

import (
	"testing"

	"lodesman/api"
)

// Two states are in the same part if and only if each of them is reachable from the other one.
func TestParts(t *testing.T) {
	seed := uint32(1)
	below := func(n int) int {
		seed = seed*1664525 + 1013904223
		return int(seed>>8) % n
	}
	for range 3000 {
		a := api.Automaton{States: 1 + below(7)}
		for range below(2 * a.States) {
			a.Edges = append(a.Edges, api.Edge{From: below(a.States), To: below(a.States)})
		}
		var reach [7][7]bool
		for range a.States {
			for s := range a.States {
				reach[s][s] = true
				for _, e := range a.Edges {
					reach[s][e.To] = reach[s][e.To] || reach[s][e.From]
				}
			}
		}
		part := parts(a)
		for s := range part {
			for u := range part {
				if (part[s] == part[u]) != (reach[s][u] && reach[u][s]) {
					t.Fatalf("%v: %v", a, part)
				}
			}
		}
	}
}
