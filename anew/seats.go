package anew

import (
	"iter"

	"jigworks/api"
)

// seats is a set of seats, by bits: a cell has as many of them as there are sides.
type seats uint64

func (l seats) with(cell, turn int) seats { return l | 1<<(cell*sides+turn) }

// each yields the seats by their cells, and those of the same cell by their turns.
func (l seats) each() iter.Seq[api.Seat] {
	return func(yield func(api.Seat) bool) {
		for n := 0; l>>n != 0; n++ {
			if l>>n&1 == 1 && !yield(api.Seat{Cell: n / sides, Turn: n % sides}) {
				return
			}
		}
	}
}

// open returns the seats of other cells at which a side of a made piece could lie, whatever its other sides are like.
func (b *board) open(own int, s api.Edge) seats {
	var l seats
	for cell := range b.Laid {
		if cell == b.place {
			continue
		}
		for turn := range b.madeTurns() {
			if b.behind(cell, (own+turn)%sides).fits(b.Puzzle.Play, s) != api.FitNever {
				l = l.with(cell, turn)
			}
		}
	}
	return l
}

// elsewhere returns the seats of other cells at which a made piece could lie.
func (b *board) elsewhere(made api.Piece) seats {
	l := ^seats(0)
	for own, s := range made.Edges {
		l &= b.open(own, s)
	}
	return l
}
