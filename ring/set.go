package ring

import (
	"iter"
	"math/bits"
)

// set is a set of persons, or of their puzzles, by bits.
type set uint

func allOf(persons int) set { return 1<<persons - 1 }

func (s set) has(person int) bool { return s>>person&1 == 1 }

func (s set) with(person int) set { return s | 1<<person }

func (s set) without(person int) set { return s &^ (1 << person) }

// least returns the least person of a set that has one.
func (s set) least() int { return bits.TrailingZeros(uint(s)) }

// each yields all of a set, from the least one to the greatest one.
func (s set) each() iter.Seq[int] {
	return func(yield func(int) bool) {
		for ; s != 0; s = s.without(s.least()) {
			if !yield(s.least()) {
				return
			}
		}
	}
}
