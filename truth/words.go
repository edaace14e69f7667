package truth

import (
	"iter"

	"lodesman/api"
	"lodesman/word"
)

// words yields the words over n propositions whose normal forms have a Stem of stem letters and a Loop of loop letters, in the order of their letters.
func words(n, stem, loop int) iter.Seq[api.Word] {
	return func(yield func(api.Word) bool) {
		letters := make([]int, stem+loop)
		for number := range 1 << (n * len(letters)) {
			digits(letters, number, n)
			w, _ := word.Normal(api.Word{Stem: letters[:stem], Loop: letters[stem:]})
			if len(w.Stem) == stem && len(w.Loop) == loop && !yield(w) {
				return
			}
		}
	}
}

// digits sets letters to the digits of number to the base 2^n, the highest one first, so that greater numbers have greater lists.
func digits(letters []int, number, n int) {
	for i := len(letters) - 1; i >= 0; i-- {
		letters[i] = number & (1<<n - 1)
		number >>= n
	}
}
