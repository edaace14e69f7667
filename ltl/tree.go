package ltl

import (
	"iter"

	"lodesman/api"
)

// nodes yields f and all nodes below it, each before its arguments: whoever ranges over it can stop before it descends into a node that is not valid.
func nodes(f api.Formula) iter.Seq[api.Formula] {
	return func(yield func(api.Formula) bool) { descend(f, yield) }
}

func descend(f api.Formula, yield func(api.Formula) bool) bool {
	if !yield(f) {
		return false
	}
	for _, g := range f.Args {
		if !descend(g, yield) {
			return false
		}
	}
	return true
}

// upwards yields f and all nodes below it, each after its arguments.
func upwards(f api.Formula) iter.Seq[api.Formula] {
	return func(yield func(api.Formula) bool) { ascend(f, yield) }
}

func ascend(f api.Formula, yield func(api.Formula) bool) bool {
	for _, g := range f.Args {
		if !ascend(g, yield) {
			return false
		}
	}
	return yield(f)
}

// clone returns a tree that is identical to f and shares no memory with it.
func clone(f api.Formula) api.Formula {
	var args []api.Formula
	for _, g := range f.Args {
		args = append(args, clone(g))
	}
	return api.Formula{Op: f.Op, Var: f.Var, Args: args}
}

// lists are two lists of arguments of the same length, known by their first elements.
type lists struct {
	f, g *api.Formula
	size int
}

// Same reports whether f and g are identical trees.
func Same(f, g api.Formula) bool {
	return same(f, g, map[lists]bool{})
}

// same skips lists that it has seen. Formulas need not be valid here, and one whose lists share memory may have far more nodes than could be visited one by one. If two lists differ, their first comparison finds it, and that decides all.
func same(f, g api.Formula, seen map[lists]bool) bool {
	if f.Op != g.Op || f.Var != g.Var || len(f.Args) != len(g.Args) {
		return false
	}
	if len(f.Args) == 0 {
		return true
	}
	pair := lists{&f.Args[0], &g.Args[0], len(f.Args)}
	if seen[pair] {
		return true
	}
	seen[pair] = true
	for i := range f.Args {
		if !same(f.Args[i], g.Args[i], seen) {
			return false
		}
	}
	return true
}
