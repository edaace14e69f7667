package shape

import (
	"strconv"
	"strings"

	"lodesman/api"
	"lodesman/aut"
)

// greatest is the greatest number that a text may have.
const greatest = 1 << 60

// Print returns the text of a.
func Print(a api.Automaton) (string, api.Errno) {
	if !aut.Valid(a) {
		return "", api.ErrArg
	}
	head := texts(a.Props, a.States, a.Kind, a.Marks)
	lines := []string{
		"props " + head[0] + " states " + head[1] + " kind " + head[2] + " marks " + head[3],
		strings.Join(append([]string{"start"}, texts(a.Start...)...), " "),
	}
	for _, e := range a.Edges {
		lines = append(lines, strings.Join(texts(e.From, e.To, e.Care, e.Bits, e.Marks), " "))
	}
	text := strings.Join(lines, "\n") + "\n"
	if len(text) > api.MaxText {
		return "", api.ErrFull
	}
	return text, api.OK
}

// Parse returns the automaton with this text.
func Parse(text string) (api.Automaton, api.Errno) {
	if len(text) > api.MaxText {
		return api.Automaton{}, api.ErrFull
	}
	a, ok := parsed(text)
	if !ok {
		return api.Automaton{}, api.ErrForm
	}
	if !aut.Valid(a) {
		return api.Automaton{}, api.ErrArg
	}
	return a, api.OK
}

// texts returns numbers as they are printed.
func texts(list ...int) []string {
	var fields []string
	for _, n := range list {
		fields = append(fields, strconv.Itoa(n))
	}
	return fields
}

// parsed returns the automaton with this text, which need not be valid, or false if there is none.
func parsed(text string) (a api.Automaton, ok bool) {
	body, ok := strings.CutSuffix(text, "\n")
	lines := strings.Split(body, "\n")
	if !ok || len(lines) < 2 {
		return api.Automaton{}, false
	}
	head, ok := headOf(lines[0])
	if !ok {
		return api.Automaton{}, false
	}
	a = api.Automaton{Props: head[0], States: head[1], Kind: head[2], Marks: head[3]}
	start := strings.Split(lines[1], " ")
	if a.Start, ok = numbers(start[1:]); !ok || start[0] != "start" {
		return api.Automaton{}, false
	}
	for _, line := range lines[2:] {
		e, ok := numbers(strings.Split(line, " "))
		if !ok || len(e) != 5 {
			return api.Automaton{}, false
		}
		a.Edges = append(a.Edges, api.Edge{From: e[0], To: e[1], Care: e[2], Bits: e[3], Marks: e[4]})
	}
	return a, true
}

// headOf returns the four numbers of the first line.
func headOf(line string) ([]int, bool) {
	fields := strings.Split(line, " ")
	if len(fields) != 8 || fields[0] != "props" || fields[2] != "states" || fields[4] != "kind" || fields[6] != "marks" {
		return nil, false
	}
	return numbers([]string{fields[1], fields[3], fields[5], fields[7]})
}

// numbers returns the numbers of fields, or false if one of them is not what is printed for a number.
func numbers(fields []string) ([]int, bool) {
	var list []int
	for _, field := range fields {
		n, err := strconv.Atoi(field)
		if err != nil || n < 0 || n > greatest || strconv.Itoa(n) != field {
			return nil, false
		}
		list = append(list, n)
	}
	return list, true
}
