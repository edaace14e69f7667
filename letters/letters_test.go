package letters_test

import (
	"testing"

	"lodesman/api"
	"lodesman/letters"
)

// Has, Of and All: each edge and each letter
func TestOf(t *testing.T) {
	for props := range api.MaxProps + 1 {
		for care := range 1 << props {
			for bits := range 1 << props {
				e := api.Edge{Care: care, Bits: bits & care}
				set := letters.Of(e, props)
				for l := range 64 {
					want := l < 1<<props && l&e.Care == e.Bits
					if set>>l&1 == 1 != want || l < 1<<props && letters.Has(e, l) != want {
						t.Fatalf("%d propositions, %v, letter %d: %b", props, e, l, set)
					}
				}
			}
		}
		if set := letters.All(props); set != letters.Of(api.Edge{}, props) || set&1 == 0 {
			t.Errorf("%d propositions: %b", props, set)
		}
	}
	if letters.All(0) != 1 || letters.All(2) != 15 || letters.All(6) != 1<<64-1 {
		t.Error("All")
	}
}

// Cubes: all of them, none twice, the largest first
func TestCubes(t *testing.T) {
	count := 1
	for props := range api.MaxProps + 1 {
		all := letters.Cubes(props)
		met := map[letters.Set]bool{}
		for i, c := range all {
			if c.Letters != letters.Of(api.Edge{Care: c.Care, Bits: c.Bits}, props) || c.Bits&^c.Care != 0 || met[c.Letters] {
				t.Errorf("%d propositions: %v", props, c)
			}
			met[c.Letters] = true
			if i > 0 && size(c.Letters) > size(all[i-1].Letters) {
				t.Errorf("%d propositions: %v behind %v", props, c, all[i-1])
			}
		}
		if len(all) != count {
			t.Errorf("%d propositions: %d cubes", props, len(all))
		}
		count *= 3
	}
}

func size(set letters.Set) int {
	n := 0
	for ; set != 0; set &= set - 1 {
		n++
	}
	return n
}

// Cover: all sets over three propositions, and many over six
func TestCover(t *testing.T) {
	expect := func(set letters.Set, all []letters.Cube, most int) {
		t.Helper()
		list := letters.Cover(set, all)
		var covered letters.Set
		for _, c := range list {
			if c.Letters&covered != 0 {
				t.Fatalf("%b: %v", set, list)
			}
			covered |= c.Letters
		}
		if covered != set || len(list) > most {
			t.Fatalf("%b: %v", set, list)
		}
	}
	three, six := letters.Cubes(3), letters.Cubes(6)
	for set := range letters.Set(256) {
		expect(set, three, 4)
	}
	set := letters.Set(1)
	for range 1000 {
		set = set*6364136223846793005 + 1442695040888963407
		expect(set, six, size(set))
	}
	for _, c := range six {
		expect(c.Letters, six, 1)
	}
}
