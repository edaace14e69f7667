package rewrite

import (
	"lodesman/api"
	"lodesman/ltl"
)

// node makes a formula. Its arguments may share memory with others until the result is copied.
func node(op int, args ...api.Formula) api.Formula { return api.Formula{Op: op, Args: args} }

func not(f api.Formula) api.Formula { return node(api.Not, f) }

func and(f, g api.Formula) api.Formula { return node(api.And, f, g) }

// constant returns True or False.
func constant(is bool) api.Formula {
	if is {
		return node(api.True)
	}
	return node(api.False)
}

// mapped returns f with each argument changed.
func mapped(f api.Formula, change func(api.Formula) api.Formula) api.Formula {
	var args []api.Formula
	for _, g := range f.Args {
		args = append(args, change(g))
	}
	return api.Formula{Op: f.Op, Var: f.Var, Args: args}
}

// copied returns the same tree in memory of its own.
func copied(f api.Formula) api.Formula { return mapped(f, copied) }

// fitting copies f, or refuses it if it has too many nodes. Its arguments may share memory, and then it may have far more nodes than could be copied or counted; Valid stops behind the first ones that are too many, and they are all that can be wrong here.
func fitting(f api.Formula) (api.Formula, api.Errno) {
	if !ltl.Valid(f, api.MaxProps) {
		return api.Formula{}, api.ErrFull
	}
	return copied(f), api.OK
}
