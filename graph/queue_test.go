package graph_test

import (
	"slices"
	"testing"

	"lodesman/graph"
)

// Queue: nodes that are added while others are processed, and an end before all are
func TestQueue(t *testing.T) {
	q := graph.Queue{3}
	var met []int
	for v := range q.All() {
		met = append(met, v)
		for k := range min(v, 2) {
			q.Add(v - 1 - k)
		}
	}
	if want := []int{3, 2, 1, 1, 0, 0, 0}; !slices.Equal(met, want) || !slices.Equal(q, want) {
		t.Errorf("%v, %v", met, q)
	}
	for v := range q.All() {
		if v == 1 {
			break
		}
		met = append(met, v)
	}
	if len(met) != 9 {
		t.Errorf("%v", met)
	}
	for v := range new(graph.Queue).All() {
		t.Errorf("%d", v)
	}
}

// Before: each arc the other way round
func TestBefore(t *testing.T) {
	g := generator(3)
	for range 500 {
		next := g.arcs(1+g.below(9), g.below(20))
		before := graph.Before(next)
		count := 0
		for v := range next {
			count += len(before[v])
			for w, list := range next {
				if slices.Contains(list, v) != slices.Contains(before[v], w) {
					t.Fatalf("%v: %v", next, before)
				}
			}
			count -= len(next[v])
		}
		if count != 0 || len(before) != len(next) {
			t.Fatalf("%v: %v", next, before)
		}
	}
	if len(graph.Before(nil)) != 0 {
		t.Error("Before")
	}
}
