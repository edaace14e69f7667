package rewrite

import "lodesman/api"

// rule returns a formula that is equivalent to f and has fewer nodes, or false if it does not apply. The arguments of f are simple already.
type rule func(f api.Formula) (api.Formula, bool)

// simplifier applies rules. known has the simple form of each formula that has occurred, by its key.
type simplifier struct {
	rules []rule
	known map[string]api.Formula
}

// simple returns the formula that is left when no rule applies, neither to it nor to a formula below it. As each rule removes a node, that happens.
func (s *simplifier) simple(f api.Formula) api.Formula {
	k := key(f)
	if g, ok := s.known[k]; ok {
		return g
	}
again:
	for {
		f = mapped(f, s.simple)
		for _, apply := range s.rules {
			if g, ok := apply(f); ok {
				f = g
				continue again
			}
		}
		s.known[k], s.known[key(f)] = f, f
		return f
	}
}

// key returns a string that no other formula has: as the operator tells the number of arguments, no parentheses are needed.
func key(f api.Formula) string {
	k := string([]byte{byte(f.Op), byte(f.Var)})
	for _, g := range f.Args {
		k += key(g)
	}
	return k
}
