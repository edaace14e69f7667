package word

import (
	"iter"
	"slices"

	"lodesman/api"
)

// normal returns the normal form of the word of stem and loop, which may be longer than a valid word.
func normal(stem, loop []int) api.Word {
	loop = loop[:period(loop)]
	// Letters at the end of the stem that the loop would have had there belong to the loop.
	back := 0
	for back < len(stem) && stem[len(stem)-1-back] == loop[len(loop)-1-back%len(loop)] {
		back++
	}
	start := (len(loop) - back%len(loop)) % len(loop)
	return api.Word{Stem: slices.Clone(stem[:len(stem)-back]), Loop: rotated(loop, start)}
}

// period returns the length of the shortest list that, repeated, is the whole list.
func period[T comparable](list []T) int {
candidates:
	for p := 1; p < len(list); p++ {
		if len(list)%p != 0 {
			continue
		}
		for i := p; i < len(list); i++ {
			if list[i] != list[i-p] {
				continue candidates
			}
		}
		return p
	}
	return len(list)
}

// rotated returns a new list: list from start on, and then what is before start.
func rotated(list []int, start int) []int {
	return append(slices.Clone(list[start:]), list[:start]...)
}

// letters yields the letters of w, without end.
func letters(w api.Word) iter.Seq[int] {
	return func(yield func(int) bool) {
		for _, l := range w.Stem {
			if !yield(l) {
				return
			}
		}
		for {
			for _, l := range w.Loop {
				if !yield(l) {
					return
				}
			}
		}
	}
}

// first returns the first count letters of w.
func first(w api.Word, count int) []int {
	list := make([]int, 0, count)
	for l := range letters(w) {
		if len(list) == count {
			break
		}
		list = append(list, l)
	}
	return list
}
