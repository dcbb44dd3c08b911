package anew

import (
	"slices"

	"jigworks/api"
	"jigworks/fit"
	"jigworks/solve"
)

// board is a repair whose pieces lie in their cells, but for the lost one, whose place is empty.
type board struct {
	api.Repair
	place int
}

// valid returns a board for a repair, and whether the repair and made pieces are valid.
func valid(r api.Repair, made ...api.Piece) (*board, bool) {
	// No puzzle has the piece -1, so that layer 3 looks no further than whether the puzzle is valid.
	_, e := solve.Where(r.Puzzle, -1)
	ok := e != api.ErrArg && r.Lost >= 0 && r.Lost < len(r.Puzzle.Pieces)
	for _, s := range made {
		ok = ok && areSides(r.Puzzle.Play, s.Edges[:]...)
	}
	return &board{Repair: r}, ok
}

// laid returns a board for a repair that is valid and laid, with made pieces that are valid, or the error.
func laid(r api.Repair, made ...api.Piece) (*board, api.Errno) {
	b, ok := valid(r, made...)
	if !ok {
		return nil, api.ErrArg
	}
	if !b.lay() {
		return nil, api.ErrState
	}
	return b, api.OK
}

// areSides returns whether what is allowed is valid, and so are sides.
func areSides(p api.Play, l ...api.Edge) bool {
	_, _, e := fit.Matches(p, api.Edge{}, l)
	return e == api.OK
}

// lay finds the place of the lost piece, and returns whether the repair is laid.
func (b *board) lay() bool {
	if !b.isFull() {
		return false
	}
	b.place = slices.IndexFunc(b.Laid, func(l api.Lay) bool { return l.Piece == b.Lost })
	for cell := range b.Laid {
		if cell != b.place && b.fits(cell, b.lying(cell)) == api.FitNever {
			return false
		}
	}
	return true
}

// isFull returns whether each cell has a piece, and each piece a cell, with a turn that it can have.
func (b *board) isFull() bool {
	n := len(b.Puzzle.Pieces)
	if len(b.Laid) != n {
		return false
	}
	lies := make([]bool, n)
	for _, l := range b.Laid {
		if l.Piece < 0 || l.Piece >= n || lies[l.Piece] || l.Turn < 0 || l.Turn >= b.turns(l.Piece) {
			return false
		}
		lies[l.Piece] = true
	}
	return true
}

// turns returns in how many ways a piece can be turned: from 0 quarters on.
func (b *board) turns(piece int) int {
	if piece == 0 {
		return 1
	}
	return b.madeTurns()
}

// madeTurns returns in how many ways a made piece can be turned, whatever piece is lost.
func (b *board) madeTurns() int {
	if b.Puzzle.Turn {
		return sides
	}
	return 1
}

// lying returns which sides lie on the sides of a cell.
func (b *board) lying(cell int) func(side int) api.Edge {
	l := b.Laid[cell]
	return turned{b.Puzzle.Pieces[l.Piece], l.Turn}.at
}

// behind returns what lies behind a side of a cell.
func (b *board) behind(cell, to int) behind {
	x, y := cell%b.Puzzle.Wide, cell/b.Puzzle.Wide
	switch to {
	case above:
		y--
	case right:
		x++
	case below:
		y++
	case left:
		x--
	}
	other := y*b.Puzzle.Wide + x
	switch {
	case x < 0 || x >= b.Puzzle.Wide || y < 0 || y >= b.Puzzle.High:
		return rim{}
	case other == b.place:
		return nothing{}
	}
	return side(b.lying(other)(opposite(to)))
}

// around returns the sides around the place.
func (b *board) around() [sides]api.Edge {
	var l [sides]api.Edge
	for to := range l {
		l[to] = b.behind(b.place, to).edge()
	}
	return l
}

// fits returns whether a piece fits into a cell, all of whose neighbours lie there: as its side does that fits worst.
func (b *board) fits(cell int, own func(side int) api.Edge) int {
	worst := api.FitAlways
	for to := range sides {
		worst = min(worst, b.behind(cell, to).fits(b.Puzzle.Play, own(to)))
	}
	return worst
}

// repaired returns the puzzle with a made piece for the lost one, whose own sides are where they lie if it is turned as the lost one was.
func (b *board) repaired(made api.Piece) api.Puzzle {
	z := b.Puzzle
	z.Pieces = slices.Clone(z.Pieces)
	z.Pieces[b.Lost] = turned{made, sides - b.Laid[b.place].Turn}.unturned()
	return z
}
