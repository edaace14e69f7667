// Package word is layer 1: ultimately periodic words. See shared/doc/01-word.md.
package word

import (
	"slices"

	"lodesman/api"
)

// Valid reports whether w is a word over n propositions.
func Valid(w api.Word, n int) bool {
	if n < 0 || n > api.MaxProps {
		return false
	}
	if len(w.Loop) == 0 || size(w) > api.MaxWord {
		return false
	}
	return allLetters(w.Stem, n) && allLetters(w.Loop, n)
}

// At returns the letter of w at position k.
func At(w api.Word, k int) (int, api.Errno) {
	if !Valid(w, api.MaxProps) {
		return 0, api.ErrArg
	}
	if k < 0 {
		return 0, api.ErrRange
	}
	if k < len(w.Stem) {
		return w.Stem[k], api.OK
	}
	return w.Loop[(k-len(w.Stem))%len(w.Loop)], api.OK
}

// Normal returns the normal form of w.
func Normal(w api.Word) (api.Word, api.Errno) {
	if !Valid(w, api.MaxProps) {
		return api.Word{}, api.ErrArg
	}
	return normal(w.Stem, w.Loop), api.OK
}

// Same reports whether a and b have the same letter at each position.
func Same(a, b api.Word) (bool, api.Errno) {
	if !Valid(a, api.MaxProps) || !Valid(b, api.MaxProps) {
		return false, api.ErrArg
	}
	a, b = normal(a.Stem, a.Loop), normal(b.Stem, b.Loop)
	return slices.Equal(a.Stem, b.Stem) && slices.Equal(a.Loop, b.Loop), api.OK
}

// From returns the normal form of the suffix of w that begins at position k.
func From(w api.Word, k int) (api.Word, api.Errno) {
	if !Valid(w, api.MaxProps) {
		return api.Word{}, api.ErrArg
	}
	if k < 0 {
		return api.Word{}, api.ErrRange
	}
	if k <= len(w.Stem) {
		return normal(w.Stem[k:], w.Loop), api.OK
	}
	start := (k - len(w.Stem)) % len(w.Loop)
	return normal(nil, rotated(w.Loop, start)), api.OK
}

// Ahead returns the normal form of the letters l followed by w.
func Ahead(l []int, w api.Word) (api.Word, api.Errno) {
	if !Valid(w, api.MaxProps) || !allLetters(l, api.MaxProps) {
		return api.Word{}, api.ErrArg
	}
	stem := append(slices.Clone(l), w.Stem...)
	return fitting(normal(stem, w.Loop))
}

// Loops returns w with its Loop repeated k times.
func Loops(w api.Word, k int) (api.Word, api.Errno) {
	if !Valid(w, api.MaxProps) {
		return api.Word{}, api.ErrArg
	}
	if k < 1 {
		return api.Word{}, api.ErrRange
	}
	// Divided rather than multiplied: k times the length may overflow.
	if k > (api.MaxWord-len(w.Stem))/len(w.Loop) {
		return api.Word{}, api.ErrFull
	}
	var loop []int
	for range k {
		loop = append(loop, w.Loop...)
	}
	return api.Word{Stem: slices.Clone(w.Stem), Loop: loop}, api.OK
}

// size is the number of letters that w is written with.
func size(w api.Word) int { return len(w.Stem) + len(w.Loop) }

// allLetters reports whether list consists of letters over n propositions.
func allLetters(list []int, n int) bool {
	for _, l := range list {
		if l < 0 || l >= 1<<n {
			return false
		}
	}
	return true
}

// fitting refuses a word that is too long.
func fitting(w api.Word) (api.Word, api.Errno) {
	if size(w) > api.MaxWord {
		return api.Word{}, api.ErrFull
	}
	return w, api.OK
}
