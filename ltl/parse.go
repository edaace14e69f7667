package ltl

import (
	"slices"
	"strings"

	"lodesman/api"
)

// fault is what the parser panics with.
type fault struct{ code api.Errno }

// parser climbs the levels of precedence. Its token is the one that is read next, and empty at the end of the text.
type parser struct {
	names []string
	text  string
	at    int
	token string
}

// Parse returns the formula of a text over names.
func Parse(names []string, text string) (f api.Formula, e api.Errno) {
	defer func() {
		if r := recover(); r != nil {
			f, e = api.Formula{}, codeOf(r)
		}
	}()
	if e := checkNames(names); e != api.OK {
		panic(fault{e})
	}
	if len(text) > api.MaxText {
		panic(fault{api.ErrFull})
	}
	p := &parser{names: names, text: text}
	f = p.whole()
	// The syntax of the whole text goes first: a text that is both wrong and too large is wrong.
	if n, _, _ := measure(f); n > api.MaxNodes {
		panic(fault{api.ErrFull})
	}
	return f, api.OK
}

// codeOf returns the error that a panic stands for. A text that makes the parser fail in any other way is not one that it can read.
func codeOf(r any) api.Errno {
	if x, ok := r.(fault); ok {
		return x.code
	}
	return api.ErrForm
}

// whole reads a formula that takes up the whole text.
func (p *parser) whole() api.Formula {
	p.advance()
	f := p.formula(lowest)
	p.expect("")
	return f
}

// formula reads operands and the binary operators between them whose level is at least level.
func (p *parser) formula(level int) api.Formula {
	left := p.operand()
	for {
		op := operatorOf(p.token)
		o := operators[op]
		if o.args != 2 || o.level < level {
			return left
		}
		p.advance()
		next := o.level
		if !o.right {
			next++
		}
		right := p.formula(next)
		left = api.Formula{Op: op, Args: []api.Formula{left, right}}
	}
}

// operand reads a formula that is no binary operator's, or one in parentheses.
func (p *parser) operand() api.Formula {
	token := p.token
	p.advance()
	if token == "(" {
		f := p.formula(lowest)
		p.expect(")")
		return f
	}
	op := operatorOf(token)
	switch {
	case op == api.Var:
		return api.Formula{Op: op, Var: p.proposition(token)}
	case operators[op].args == 0:
		return api.Formula{Op: op}
	case operators[op].args == 1:
		argument := p.operand()
		return api.Formula{Op: op, Args: []api.Formula{argument}}
	}
	panic(fault{api.ErrForm})
}

// proposition returns the number of a name.
func (p *parser) proposition(name string) int {
	i := slices.Index(p.names, name)
	if i < 0 {
		panic(fault{api.ErrForm})
	}
	return i
}

// expect reads that token.
func (p *parser) expect(token string) {
	if p.token != token {
		panic(fault{api.ErrForm})
	}
	p.advance()
}

// advance goes to the next token.
func (p *parser) advance() {
	for p.at < len(p.text) && p.text[p.at] == ' ' {
		p.at++
	}
	size := tokenSize(p.text[p.at:])
	p.token = p.text[p.at : p.at+size]
	p.at += size
}

// tokenSize returns the length of the token that text begins with, and 0 only at the end.
func tokenSize(text string) int {
	if text == "" {
		return 0
	}
	if isLower(text[0]) {
		return nameEnd(text, 0)
	}
	if text[0] == '(' || text[0] == ')' {
		return 1
	}
	for _, o := range operators {
		if o.token != "" && strings.HasPrefix(text, o.token) {
			return len(o.token)
		}
	}
	panic(fault{api.ErrForm})
}
