package ltl

import "lodesman/api"

// Print returns the printed form of f over names.
func Print(names []string, f api.Formula) (string, api.Errno) {
	if e := checkNames(names); e != api.OK {
		return "", e
	}
	if !Valid(f, len(names)) {
		return "", api.ErrArg
	}
	return printed(names, f), api.OK
}

func printed(names []string, f api.Formula) string {
	if f.Op == api.Var {
		return names[f.Var]
	}
	o := operators[f.Op]
	switch o.args {
	case 0:
		return o.token
	case 1:
		argument := enclosed(names, f.Args[0], levelOf(f.Args[0]) < highest)
		if f.Op == api.Not {
			return o.token + argument
		}
		return o.token + " " + argument
	}
	left, right := levelOf(f.Args[0]), levelOf(f.Args[1])
	first := enclosed(names, f.Args[0], left < o.level || left == o.level && o.right)
	second := enclosed(names, f.Args[1], right < o.level || right == o.level && !o.right)
	return first + " " + o.token + " " + second
}

// enclosed prints f, in parentheses if they are needed.
func enclosed(names []string, f api.Formula, needed bool) string {
	text := printed(names, f)
	if needed {
		return "(" + text + ")"
	}
	return text
}

func levelOf(f api.Formula) int { return operators[f.Op].level }
