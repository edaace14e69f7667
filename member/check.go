package member

import (
	"slices"

	"lodesman/api"
	"lodesman/aut"
	"lodesman/word"
)

// isAccepted reports whether there are edges in loop, and their marks are accepted.
func isAccepted(a api.Automaton, loop []int) bool {
	marks := 0
	for _, i := range loop {
		marks |= a.Edges[i].Marks
	}
	is, _ := aut.Accepts(a.Kind, a.Marks, marks)
	return is && len(loop) > 0
}

// isConnected reports whether the edges of a run that is not empty follow one another from a Start state on, and those from stem on form a loop.
func isConnected(a api.Automaton, run []int, stem int) bool {
	if !slices.Contains(a.Start, a.Edges[run[0]].From) {
		return false
	}
	for k, i := range run {
		next := stem
		if k+1 < len(run) {
			next = k + 1
		}
		if a.Edges[i].To != a.Edges[run[next]].From {
			return false
		}
	}
	return true
}

// isOn reports whether a run has the letters of w, of which those from position stem on are repeated when the run is at its end.
func isOn(a api.Automaton, w api.Word, run []int, stem int) bool {
	for k, i := range run {
		if e := a.Edges[i]; letterAt(w, k)&e.Care != e.Bits {
			return false
		}
	}
	begin, _ := word.From(w, stem)
	end, _ := word.From(w, len(run))
	same, _ := word.Same(begin, end)
	return same
}

// letterAt returns the letter of a valid word, without the check of the word that word's At makes each time.
func letterAt(w api.Word, k int) int {
	if k < len(w.Stem) {
		return w.Stem[k]
	}
	return w.Loop[(k-len(w.Stem))%len(w.Loop)]
}
