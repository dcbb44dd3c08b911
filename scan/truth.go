package scan

import (
	"iter"
	"slices"

	"jigworks/api"
)

// state is how far a pile is seated: all groups before one, into a set of cells. It is open if what is left can be seated, too.
type state struct {
	group int
	cells set
}

// fewest returns how many scans must have a cell, so that there are neither too many aliens nor too many cells without a scan.
func (p *pile) fewest() int {
	return max(len(p.Scans)-p.Foreign, len(p.Drawing.Pieces)-p.Lost)
}

// steps yields the ways in which the next group can be seated, in their order, and the state after each of them.
func (p *pile) steps(at state) iter.Seq2[way, state] {
	return func(yield func(way, state) bool) {
	ways:
		for _, w := range p.groups[at.group] {
			after := state{group: at.group + 1, cells: at.cells}
			for _, seat := range w {
				if seat == alien {
					continue
				}
				if after.cells.has(seat.Cell) {
					continue ways
				}
				after.cells = after.cells.with(seat.Cell)
			}
			if !yield(w, after) {
				return
			}
		}
	}
}

// search finds which states are open, and what truths say, and returns whether there is a truth. As there can be far too many truths to go through, it goes through the states: each one once, in however many ways it is reached.
func (p *pile) search() bool {
	var opens func(at state) bool
	opens = func(at state) bool {
		if open, ok := p.open[at]; ok {
			return open
		}
		open := false
		if at.group == len(p.groups) {
			open = p.end(at)
		} else {
			for w, after := range p.steps(at) {
				if opens(after) {
					open = true
					p.say(w)
				}
			}
		}
		p.open[at] = open
		return open
	}
	return opens(state{})
}

// end notes which cells have a scan when all are seated, and returns whether this is a truth.
func (p *pile) end(at state) bool {
	if at.cells.many() < p.fewest() {
		return false
	}
	p.full = append(p.full, at.cells)
	return true
}

// say notes that scans have their seats in some truth.
func (p *pile) say(w way) {
	for scan, seat := range w {
		p.said[scan] = gather(p.said[scan], seat)
	}
}

// truths yields all truths, in their order.
func (p *pile) truths() iter.Seq[[]api.Seat] {
	return func(yield func([]api.Seat) bool) {
		seats := make([]api.Seat, len(p.Scans))
		// fill seats all that is left, and returns whether to go on.
		var fill func(at state) bool
		fill = func(at state) bool {
			if at.group == len(p.groups) {
				return yield(slices.Clone(seats))
			}
			for w, after := range p.steps(at) {
				if !p.open[after] {
					continue
				}
				for scan, seat := range w {
					seats[scan] = seat
				}
				if !fill(after) {
					return false
				}
			}
			return true
		}
		fill(state{})
	}
}

// places returns the cells that each scan has in some truth, and which scans are aliens in some truth.
func (p *pile) places() (found places, aliens set) {
	for scan := range p.Scans {
		for _, seat := range p.said[scan] {
			if seat == alien {
				aliens = aliens.with(scan)
			} else {
				found.add(scan, seat.Cell)
			}
		}
	}
	return found, aliens
}

// told returns what all truths say of a scan.
func (p *pile) told(scan int) api.Seat {
	l := p.said[scan]
	return fold(l[1:], l[0], agreed)
}

// agreed returns what two different seats have in common.
func agreed(a, b api.Seat) api.Seat {
	if a.Cell == b.Cell {
		return api.Seat{Cell: a.Cell}
	}
	return api.Seat{Cell: api.NoCell}
}

// missing returns the cells that have no scan in each truth, and those that have none in some truth.
func (p *pile) missing() (always, ever set) {
	all := set(1)<<len(p.Drawing.Pieces) - 1
	return all &^ fold(p.full, 0, set.or), all &^ fold(p.full, all, set.and)
}
