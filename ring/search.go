package ring

import (
	"slices"

	"jigworks/api"
)

// deal is what some persons get, and how much is given so.
type deal struct {
	worth int
	gets  [api.MaxTraders]int
}

// with returns a deal in which one person more gets a puzzle.
func (d deal) with(person, puzzle, worth int) deal {
	d.worth += worth
	d.gets[person] = puzzle
	return d
}

// beats returns whether a deal gives more than another one of the same persons, or as much, and comes before it.
func (d deal) beats(other deal) bool {
	if d.worth != other.worth {
		return d.worth > other.worth
	}
	return slices.Compare(d.gets[:], other.gets[:]) < 0
}

// state is how far an exchange is tried: whose puzzles nobody has got yet, who gets one next, and how many more can come into its ring. The ring is closed by the least of these puzzles, that of its first person.
type state struct {
	left        set
	taker, room int
}

// begun returns the state in which the least person that is left begins a ring of at most so many.
func begun(left set, long int) state {
	if left == 0 {
		return state{}
	}
	return state{left: left, taker: left.least(), room: long - 1}
}

// most returns the best fair exchange whose rings have at most so many persons, and what it gives.
func (w wishes) most(long int) (gets []int, worth int) {
	found := map[state]best[deal]{}
	var rest func(at state) best[deal]
	rest = func(at state) best[deal] {
		if known, ok := found[at]; ok {
			return known
		}
		var deals []deal
	ring:
		for puzzle := range at.left.each() {
			after := state{at.left.without(puzzle), puzzle, at.room - 1}
			switch {
			case puzzle == at.left.least():
				after = begun(after.left, long)
			case at.room == 0:
				break ring
			}
			if !w.takes(at.taker, puzzle) {
				continue
			}
			if d := rest(after); d.ok {
				deals = append(deals, d.is.with(at.taker, puzzle, w[at.taker][puzzle]))
			}
		}
		found[at] = best[deal]{better: deal.beats}.of(deals...)
		return found[at]
	}
	found[state{}] = best[deal]{ok: true}
	all := rest(begun(allOf(len(w)), long)).is
	return slices.Clone(all.gets[:len(w)]), all.worth
}
