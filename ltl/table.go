package ltl

import "lodesman/api"

// operator is what the syntax and the semantics say of an operator.
type operator struct {
	token    string // as it is written; "" for Var, which is written as a name
	args     int
	level    int  // of precedence
	right    bool // associates to the right
	temporal bool
	dual     int // the operator of the negation of a formula whose arguments are negated; the operator itself if there is none
}

// The levels that the parser and the printer refer to.
const (
	lowest  = 1 // of all binary operators
	highest = 6 // of everything that is not a binary operator
)

// operators has the properties of each operator, by its number.
var operators = [...]operator{
	api.True:    {"true", 0, highest, false, false, api.False},
	api.False:   {"false", 0, highest, false, false, api.True},
	api.Var:     {"", 0, highest, false, false, api.Var},
	api.Not:     {"!", 1, highest, false, false, api.Not},
	api.And:     {"&", 2, 4, false, false, api.Or},
	api.Or:      {"|", 2, 3, false, false, api.And},
	api.Implies: {"->", 2, 2, true, false, api.Implies},
	api.Iff:     {"<->", 2, lowest, false, false, api.Iff},
	api.Next:    {"X", 1, highest, false, true, api.Next},
	api.Finally: {"F", 1, highest, false, true, api.Always},
	api.Always:  {"G", 1, highest, false, true, api.Finally},
	api.Until:   {"U", 2, 5, true, true, api.Release},
	api.Release: {"R", 2, 5, true, true, api.Until},
	api.Weak:    {"W", 2, 5, true, true, api.Weak},
}

// operatorOf returns the operator with that token, or Var: any other token can at best be a name.
func operatorOf(token string) int {
	for op, o := range operators {
		if o.token == token {
			return op
		}
	}
	return api.Var
}
