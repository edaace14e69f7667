package word

import (
	"strconv"
	"strings"

	"lodesman/api"
)

// Where in a text the reader is.
const (
	inStem = iota
	inLoop
	afterLoop
)

// Print returns the letters of w with parentheses around the Loop.
func Print(w api.Word) (string, api.Errno) {
	if !Valid(w, api.MaxProps) {
		return "", api.ErrArg
	}
	var out strings.Builder
	writeLetters(&out, w.Stem)
	out.WriteString("( ")
	writeLetters(&out, w.Loop)
	out.WriteString(")")
	return out.String(), api.OK
}

// Parse returns the word of a text, as it is written there.
func Parse(text string) (api.Word, api.Errno) {
	if len(text) > api.MaxText {
		return api.Word{}, api.ErrFull
	}
	w, ok := read(text)
	if !ok || !Valid(w, api.MaxProps) {
		return api.Word{}, api.ErrForm
	}
	return w, api.OK
}

// writeLetters writes each letter with a blank after it.
func writeLetters(out *strings.Builder, list []int) {
	for _, l := range list {
		out.WriteString(strconv.Itoa(l))
		out.WriteString(" ")
	}
}

// read reads numbers and the two parentheses; it leaves the check of the numbers to Valid.
func read(text string) (w api.Word, ok bool) {
	place := inStem
	for at := 0; at < len(text); {
		c := text[at]
		switch {
		case c == ' ':
			at++
		case c == '(' && place == inStem, c == ')' && place == inLoop:
			place++
			at++
		case isDigit(c) && place == inStem:
			end := digitsEnd(text, at)
			w.Stem = append(w.Stem, number(text[at:end]))
			at = end
		case isDigit(c) && place == inLoop:
			end := digitsEnd(text, at)
			w.Loop = append(w.Loop, number(text[at:end]))
			at = end
		default:
			return api.Word{}, false
		}
	}
	return w, place == afterLoop
}

func isDigit(c byte) bool { return c >= '0' && c <= '9' }

// digitsEnd returns the position after the digits that begin at at.
func digitsEnd(text string, at int) int {
	for at < len(text) && isDigit(text[at]) {
		at++
	}
	return at
}

// number returns the value of digits, but never more than one that is no letter, so that no length of digits overflows.
func number(digits string) int {
	value := 0
	for _, d := range digits {
		value = min(10*value+int(d-'0'), 1<<api.MaxProps)
	}
	return value
}
