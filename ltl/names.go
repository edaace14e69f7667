package ltl

import (
	"slices"

	"lodesman/api"
)

// checkNames refuses too many names, and then names that are none or that occur twice.
func checkNames(names []string) api.Errno {
	if len(names) > api.MaxProps {
		return api.ErrRange
	}
	for i, name := range names {
		if !isName(name) || slices.Contains(names[:i], name) {
			return api.ErrForm
		}
	}
	return api.OK
}

func isName(s string) bool {
	if s == "" || len(s) > api.MaxName || !isLower(s[0]) {
		return false
	}
	return nameEnd(s, 0) == len(s) && operatorOf(s) == api.Var
}

// nameEnd returns the position after the small letters and digits that begin at at.
func nameEnd(s string, at int) int {
	for at < len(s) && (isLower(s[at]) || isDigit(s[at])) {
		at++
	}
	return at
}

func isLower(c byte) bool { return c >= 'a' && c <= 'z' }

func isDigit(c byte) bool { return c >= '0' && c <= '9' }
