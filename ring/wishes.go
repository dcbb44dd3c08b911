package ring

import "iter"

// wishes is what each puzzle is worth to each person, in a valid market.
type wishes [][]int

// takes returns whether a person wishes a puzzle, or keeps it.
func (w wishes) takes(person, puzzle int) bool {
	return person == puzzle || w[person][puzzle] > 0
}

// choices yields the puzzles that a person wishes, and its own, in their order.
func (w wishes) choices(person int) iter.Seq[int] {
	return func(yield func(int) bool) {
		for puzzle := range w {
			if w.takes(person, puzzle) && !yield(puzzle) {
				return
			}
		}
	}
}

// refuser returns the first person that gets what it does not wish, if there is one.
func (w wishes) refuser(gets []int) (person int, ok bool) {
	for person, puzzle := range gets {
		if !w.takes(person, puzzle) {
			return person, true
		}
	}
	return 0, false
}

// given returns what an exchange gives.
func (w wishes) given(gets []int) int {
	worth := 0
	for person, puzzle := range gets {
		worth += w[person][puzzle]
	}
	return worth
}

// envier returns the first person that is not content, and the first puzzle that would be better for it, if there is one.
func (w wishes) envier(gets, prices []int) (person, of int, ok bool) {
	for person, puzzle := range gets {
		for other := range w.choices(person) {
			if w[person][other]-prices[other] > w[person][puzzle]-prices[puzzle] {
				return person, other, true
			}
		}
	}
	return 0, 0, false
}

// ringsOf returns the rings of an exchange, each from its least person on.
func ringsOf(gets []int) [][]int {
	var rings [][]int
	left := allOf(len(gets))
	for first := range gets {
		if !left.has(first) || gets[first] == first {
			continue
		}
		var ring []int
		for person := first; left.has(person); person = gets[person] {
			ring = append(ring, person)
			left = left.without(person)
		}
		rings = append(rings, ring)
	}
	return rings
}
