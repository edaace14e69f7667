package word

import "lodesman/api"

// Mix returns the normal form of the word whose letters have those of a in their lowest n bits and those of b above.
func Mix(a, b api.Word, n, m int) (api.Word, api.Errno) {
	// Each is bounded on its own: the sum of two large numbers may overflow.
	if n < 0 || m < 0 || n > api.MaxProps || m > api.MaxProps-n {
		return api.Word{}, api.ErrRange
	}
	if !Valid(a, n) || !Valid(b, m) {
		return api.Word{}, api.ErrArg
	}
	stem := max(len(a.Stem), len(b.Stem))
	count := stem + leastMultiple(len(a.Loop), len(b.Loop))
	mixed, upper := first(a, count), first(b, count)
	for i, l := range upper {
		mixed[i] += l << n
	}
	return fitting(normal(mixed[:stem], mixed[stem:]))
}

// Split returns the normal forms of the words of the lowest n bits of w's letters and of the bits above.
func Split(w api.Word, n int) (a, b api.Word, e api.Errno) {
	if !Valid(w, api.MaxProps) {
		return api.Word{}, api.Word{}, api.ErrArg
	}
	if n < 0 || n > api.MaxProps {
		return api.Word{}, api.Word{}, api.ErrRange
	}
	lower, upper := first(w, size(w)), first(w, size(w))
	for i := range lower {
		lower[i] &= 1<<n - 1
		upper[i] >>= n
	}
	stem := len(w.Stem)
	return normal(lower[:stem], lower[stem:]), normal(upper[:stem], upper[stem:]), api.OK
}

// leastMultiple returns the least common multiple of two positive numbers.
func leastMultiple(a, b int) int {
	multiple := a
	for multiple%b != 0 {
		multiple += a
	}
	return multiple
}
