package anew

import "jigworks/api"

// The sides of a cell, and of a piece that is not turned.
const (
	above = iota
	right
	below
	left
	sides
)

func opposite(side int) int { return (side + 2) % sides }

// turned is a piece that is turned by some quarters.
type turned struct {
	api.Piece
	by int
}

// at returns which side of the piece lies on a side of its cell.
func (t turned) at(side int) api.Edge { return t.Edges[(side-t.by+sides)%sides] }

// unturned returns the piece that has its own sides where those of the turned one lie.
func (t turned) unturned() api.Piece {
	var p api.Piece
	for side := range sides {
		p.Edges[side] = t.at(side)
	}
	return p
}
