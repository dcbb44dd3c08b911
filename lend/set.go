package lend

import "iter"

// set is a set of pieces, or of those who can have lost one, by bits.
type set int

func (s set) has(n int) bool { return s>>n&1 == 1 }

func (s set) with(n int) set { return s | 1<<n }

// each yields what is in a set, from the least number to the greatest one.
func (s set) each() iter.Seq[int] {
	return func(yield func(int) bool) {
		for n := 0; s>>n > 0; n++ {
			if s.has(n) && !yield(n) {
				return
			}
		}
	}
}

// gathered returns the set of all that is yielded.
func gathered(l iter.Seq[int]) set {
	var s set
	for n := range l {
		s = s.with(n)
	}
	return s
}
