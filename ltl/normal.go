package ltl

import "lodesman/api"

// builder counts the nodes that it makes, so that a formula that becomes too large is given up early: an Iff doubles its arguments, and nested ones would have millions of nodes.
type builder struct{ count int }

// Nnf returns the negation normal form of f.
func Nnf(f api.Formula) (api.Formula, api.Errno) {
	return normalized(f, false)
}

// Negate returns the negation normal form of the negation of f.
func Negate(f api.Formula) (api.Formula, api.Errno) {
	return normalized(f, true)
}

// Safe reports whether the negation normal form of f has neither Finally nor Until.
func Safe(f api.Formula) (bool, api.Errno) {
	f, e := Nnf(f)
	if e != api.OK {
		return false, e
	}
	for g := range nodes(f) {
		if g.Op == api.Finally || g.Op == api.Until {
			return false, api.OK
		}
	}
	return true, api.OK
}

// Put substitutes by for each Var i of f.
func Put(f api.Formula, i int, by api.Formula) (api.Formula, api.Errno) {
	if !Valid(f, api.MaxProps) || !Valid(by, api.MaxProps) {
		return api.Formula{}, api.ErrArg
	}
	if i < 0 || i >= api.MaxProps {
		return api.Formula{}, api.ErrRange
	}
	size, places := 0, 0
	for g := range nodes(f) {
		size++
		if g.Op == api.Var && g.Var == i {
			places++
		}
	}
	added, _, _ := measure(by)
	if size+places*(added-1) > api.MaxNodes {
		return api.Formula{}, api.ErrFull
	}
	return put(f, i, by), api.OK
}

func put(f api.Formula, i int, by api.Formula) api.Formula {
	if f.Op == api.Var && f.Var == i {
		return clone(by)
	}
	var args []api.Formula
	for _, g := range f.Args {
		args = append(args, put(g, i, by))
	}
	return api.Formula{Op: f.Op, Var: f.Var, Args: args}
}

// normalized returns pos(f), or neg(f) if negated is true.
func normalized(f api.Formula, negated bool) (api.Formula, api.Errno) {
	if !Valid(f, api.MaxProps) {
		return api.Formula{}, api.ErrArg
	}
	b := &builder{}
	f = b.normal(f, negated)
	if b.full() {
		return api.Formula{}, api.ErrFull
	}
	return f, api.OK
}

func (b *builder) full() bool { return b.count > api.MaxNodes }

// node makes a node. It takes over args, which must be new.
func (b *builder) node(op, v int, args ...api.Formula) api.Formula {
	b.count++
	return api.Formula{Op: op, Var: v, Args: args}
}

// normal makes pos(f), or neg(f) if negated is true, or anything if b is full.
func (b *builder) normal(f api.Formula, negated bool) api.Formula {
	if b.full() {
		return api.Formula{}
	}
	switch {
	case f.Op == api.Var:
		return b.literal(f.Var, negated)
	case f.Op == api.Not:
		return b.normal(f.Args[0], !negated)
	case f.Op == api.Implies && negated:
		return b.pair(api.And, f, false, true)
	case f.Op == api.Implies:
		return b.pair(api.Or, f, true, false)
	case f.Op == api.Iff:
		left := b.pair(api.And, f, false, negated)
		right := b.pair(api.And, f, true, !negated)
		return b.node(api.Or, 0, left, right)
	case f.Op == api.Weak && negated:
		left := b.pair(api.And, f, false, true)
		right := b.pair(api.And, f, true, true)
		return b.node(api.Until, 0, left, right)
	}
	op := f.Op
	if negated {
		op = operators[op].dual
	}
	var args []api.Formula
	for _, g := range f.Args {
		args = append(args, b.normal(g, negated))
	}
	return b.node(op, 0, args...)
}

// literal makes a Var or its negation.
func (b *builder) literal(v int, negated bool) api.Formula {
	f := b.node(api.Var, v)
	if negated {
		f = b.node(api.Not, 0, f)
	}
	return f
}

// pair makes a node of the two arguments of f, each negated or not.
func (b *builder) pair(op int, f api.Formula, first, second bool) api.Formula {
	left := b.normal(f.Args[0], first)
	right := b.normal(f.Args[1], second)
	return b.node(op, 0, left, right)
}
