package scale

import (
	"iter"

	"jigworks/api"
)

// list is by how many pieces of each kind there are more than there must be. The kinds that a box has not have 0.
type list [api.MaxBoxKinds]int

// isComplete returns whether nothing is lost.
func (l list) isComplete() bool {
	for _, n := range l {
		if n < 0 {
			return false
		}
	}
	return true
}

// lists yields all lists that a box can have, in lexicographic order.
func lists(b api.Box) iter.Seq[list] {
	return func(yield func(list) bool) {
		var has list
		var fill func(kind, lost, extra int) bool
		fill = func(kind, lost, extra int) bool {
			if kind == len(b.Kinds) {
				return yield(has)
			}
			for n := -min(lost, b.Kinds[kind].Many); n <= extra; n++ {
				has[kind] = n
				if !fill(kind+1, lost+min(n, 0), extra-max(n, 0)) {
					return false
				}
			}
			return true
		}
		fill(0, b.Lost, b.Extra)
	}
}

// fitting returns the complete lists that fit all readings, and the others that do.
func fitting(b api.Box, l []api.Reading) (complete, others []list) {
	for has := range lists(b) {
		switch {
		case !fits(b, l, has):
		case has.isComplete():
			complete = append(complete, has)
		default:
			others = append(others, has)
		}
	}
	return complete, others
}

// fits returns whether a list fits all readings.
func fits(b api.Box, l []api.Reading, has list) bool {
	for _, r := range l {
		if !machineOf(r.Test).reads(b, has).meets(just(r.Got)) {
			return false
		}
	}
	return true
}

// numbersOf returns the span of the numbers that one or more lists have for a kind.
func numbersOf(l []list, kind int) spread {
	s := just(l[0][kind])
	for _, has := range l {
		s = s.with(has[kind])
	}
	return s
}
