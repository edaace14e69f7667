// Package ltl is layer 2: formulas of linear temporal logic. See shared/doc/02-ltl.md.
package ltl

import "lodesman/api"

// Valid reports whether f is a formula over n propositions.
func Valid(f api.Formula, n int) bool {
	if n < 0 || n > api.MaxProps {
		return false
	}
	count := 0
	for g := range nodes(f) {
		count++
		if count > api.MaxNodes || !validNode(g, n) {
			return false
		}
	}
	return true
}

// validNode checks a node and the number of its arguments, but not the arguments.
func validNode(f api.Formula, n int) bool {
	if f.Op < 0 || f.Op >= len(operators) {
		return false
	}
	if len(f.Args) != operators[f.Op].args {
		return false
	}
	if f.Op == api.Var {
		return f.Var >= 0 && f.Var < n
	}
	return f.Var == 0
}

// Size returns the number of nodes of f, of its temporal nodes, and of those on the path that has the most.
func Size(f api.Formula) (nodes, temporal, depth int, e api.Errno) {
	if !Valid(f, api.MaxProps) {
		return 0, 0, 0, api.ErrArg
	}
	nodes, temporal, depth = measure(f)
	return nodes, temporal, depth, api.OK
}

// measure is Size of a valid formula.
func measure(f api.Formula) (nodes, temporal, depth int) {
	for _, g := range f.Args {
		n, t, d := measure(g)
		nodes += n
		temporal += t
		depth = max(depth, d)
	}
	if operators[f.Op].temporal {
		temporal++
		depth++
	}
	return nodes + 1, temporal, depth
}

// Props returns the propositions of f as a bit mask.
func Props(f api.Formula) (int, api.Errno) {
	if !Valid(f, api.MaxProps) {
		return 0, api.ErrArg
	}
	mask := 0
	for g := range nodes(f) {
		if g.Op == api.Var {
			mask |= 1 << g.Var
		}
	}
	return mask, api.OK
}

// Subs returns the distinct subformulas of f, each after its arguments.
func Subs(f api.Formula) ([]api.Formula, api.Errno) {
	if !Valid(f, api.MaxProps) {
		return nil, api.ErrArg
	}
	var list []api.Formula
	for g := range upwards(f) {
		if !contains(list, g) {
			list = append(list, clone(g))
		}
	}
	return list, api.OK
}

func contains(list []api.Formula, f api.Formula) bool {
	for _, g := range list {
		if Same(f, g) {
			return true
		}
	}
	return false
}
