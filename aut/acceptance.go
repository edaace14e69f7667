package aut

import (
	"math/bits"

	"lodesman/api"
)

// acceptance is what the kinds differ in.
type acceptance struct {
	permits func(marks int) bool      // whether an automaton may have that many marks
	accepts func(marks, inf int) bool // whether a run is accepted that meets the marks of inf infinitely often
	refuses func(marks int) refusal
}

// refusal is a set of marks with which a run is not accepted, where added marks are added to those of the automaton and all its edges get the marks of others.
type refusal struct {
	inf, added, others int
}

// acceptanceOf returns false if there is no such kind.
func acceptanceOf(kind int) (acceptance, bool) {
	switch kind {
	case api.Buchi:
		return acceptance{permits: isOne, accepts: meetsAll, refuses: refusesNone}, true
	case api.General:
		return acceptance{permits: isFew, accepts: meetsAll, refuses: refusesMissing}, true
	case api.CoBuchi:
		return acceptance{permits: isOne, accepts: meetsNone, refuses: refusesFirst}, true
	case api.Rabin:
		return acceptance{permits: isFewPairs, accepts: meetsPair, refuses: refusesNone}, true
	case api.Streett:
		unpaired := func(marks, inf int) bool { return !meetsPair(marks, inf) }
		return acceptance{permits: isFewPairs, accepts: unpaired, refuses: refusesSecond}, true
	case api.Parity:
		return acceptance{permits: isFew, accepts: meetsEven, refuses: refusesNone}, true
	}
	return acceptance{}, false
}

func isOne(marks int) bool { return marks == 1 }

func isFew(marks int) bool { return marks >= 0 && marks <= api.MaxMarks }

func isFewPairs(marks int) bool { return isFew(marks) && marks%2 == 0 }

func meetsAll(marks, inf int) bool { return inf == 1<<marks-1 }

func meetsNone(_, inf int) bool { return inf == 0 }

// meetsPair reports whether the second mark of some pair is met, and the first one is not.
func meetsPair(marks, inf int) bool {
	for i := 0; i < marks; i += 2 {
		if inf>>i&3 == 2 {
			return true
		}
	}
	return false
}

// meetsEven reports whether the greatest mark is even.
func meetsEven(_, inf int) bool { return bits.Len(uint(inf))%2 == 1 }

func refusesNone(int) refusal { return refusal{} }

func refusesFirst(int) refusal { return refusal{inf: 1} }

// refusesMissing is for General, which without marks accepts everything.
func refusesMissing(marks int) refusal {
	if marks == 0 {
		return refusal{added: 1, others: 1}
	}
	return refusal{}
}

// refusesSecond is for Streett, which without a pair accepts everything.
func refusesSecond(marks int) refusal {
	if marks == 0 {
		return refusal{inf: 2, added: 2}
	}
	return refusal{inf: 2}
}
