package scan

import (
	"jigworks/api"
	"jigworks/fit"
)

// The sides of a cell, and of a piece that is not turned.
const (
	above = iota
	right
	below
	left
	sides
)

func opposite(side int) int { return (side + 2) % sides }

// drawing is a puzzle that says what its pieces are like.
type drawing api.Puzzle

// isValid returns whether a drawing is valid.
func (d drawing) isValid() bool {
	n := len(d.Pieces)
	// Of great numbers the product could be n, too, as it wraps around.
	return n <= api.MaxPuzzle && d.Wide >= 1 && d.Wide <= n && d.High >= 1 && d.High <= n && d.Wide*d.High == n &&
		every(d.isPiece, d.Pieces...)
}

// isPiece returns whether what the drawing allows is valid, and so are the sides of a piece.
func (d drawing) isPiece(p api.Piece) bool {
	_, _, e := fit.Matches(d.Play, api.Edge{}, p.Edges[:])
	return e == api.OK
}

// behind returns the cell behind a side of a cell, and whether there is one.
func (d drawing) behind(cell, side int) (int, bool) {
	x, y := cell%d.Wide, cell/d.Wide
	switch side {
	case above:
		y--
	case right:
		x++
	case below:
		y++
	case left:
		x--
	}
	return y*d.Wide + x, x >= 0 && x < d.Wide && y >= 0 && y < d.High
}

// isRight returns whether a side of a cell is as it must be.
func (d drawing) isRight(cell, side int) bool {
	own := d.Pieces[cell].Edges[side]
	other, ok := d.behind(cell, side)
	if !ok {
		return own.Kind == api.EdgeFlat
	}
	fits, _ := fit.Fit(d.Play, own, d.Pieces[other].Edges[opposite(side)])
	return fits == api.FitAlways
}

// wrong returns the first side of a cell that is not as it must be, and whether there is one.
func (d drawing) wrong() (cell, side int, ok bool) {
	for cell := range d.Pieces {
		for side := range sides {
			if !d.isRight(cell, side) {
				return cell, side, true
			}
		}
	}
	return 0, 0, false
}

// seats returns all seats at which a scan can be, in their order.
func (d drawing) seats(scan api.Piece) []api.Seat {
	var l []api.Seat
	for cell, p := range d.Pieces {
	turns:
		for turn := range sides {
			for side, drawn := range p.Edges {
				if !canBeSame(drawn, scan.Edges[(side-turn+sides)%sides]) {
					continue turns
				}
			}
			l = append(l, api.Seat{Cell: cell, Turn: turn})
		}
	}
	return l
}
