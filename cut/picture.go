package cut

import (
	"iter"
	"slices"

	"jigworks/api"
)

// cell is where a cell is: its column and its row. There are cells outside the picture, too: the border is there.
type cell struct{ x, y int }

// beside yields the four cells next to a cell, also those outside the picture.
func (c cell) beside() iter.Seq[cell] {
	return func(yield func(cell) bool) {
		for _, d := range [4]cell{{c.x, c.y - 1}, {c.x + 1, c.y}, {c.x, c.y + 1}, {c.x - 1, c.y}} {
			if !yield(d) {
				return
			}
		}
	}
}

// picture is a cut in which cells are found by where they are. Its number of pieces is right if the cut is good.
type picture struct {
	wide, high, pieces int
	piece              map[cell]int
}

// pieceSet is a set of pieces.
type pieceSet [api.MaxPieces]bool

// layOut returns the picture of a cut.
func layOut(c api.Cut) picture {
	p := picture{wide: c.Wide, high: c.High, pieces: slices.Max(c.Piece) + 1, piece: map[cell]int{}}
	for i, n := range c.Piece {
		p.piece[cell{i % c.Wide, i / c.Wide}] = n
	}
	return p
}

// has returns whether a number is that of a piece.
func (p picture) has(piece int) bool { return piece >= 0 && piece < p.pieces }

// at returns the piece of a cell, and NoPiece outside the picture.
func (p picture) at(c cell) int {
	if n, ok := p.piece[c]; ok {
		return n
	}
	return api.NoPiece
}

// cells yields all cells, row by row.
func (p picture) cells() iter.Seq[cell] {
	return block{right: p.wide, bottom: p.high}.cells()
}

// count returns how many pieces there are, or, with an error, the number of the piece that is to blame.
func (p picture) count() (int, api.Errno) {
	parts := p.parts()
	if n := slices.Index(parts[:p.pieces], 0); n >= 0 {
		return n, api.ErrNone
	}
	if n := slices.IndexFunc(parts[:p.pieces], func(n int) bool { return n > 1 }); n >= 0 {
		return n, api.ErrState
	}
	return p.pieces, api.OK
}

// parts returns, for each number, in how many parts its cells are.
func (p picture) parts() [api.MaxPieces]int {
	var parts [api.MaxPieces]int
	var reached [api.MaxSide][api.MaxSide]bool
	var reach func(c cell)
	reach = func(c cell) {
		reached[c.y][c.x] = true
		for d := range c.beside() {
			if p.at(d) == p.at(c) && !reached[d.y][d.x] {
				reach(d)
			}
		}
	}
	for c := range p.cells() {
		if !reached[c.y][c.x] {
			parts[p.at(c)]++
			reach(c)
		}
	}
	return parts
}

// faced yields, for each edge of a piece, the piece on its other side, or NoPiece for the border.
func (p picture) faced(piece int) iter.Seq[int] {
	return func(yield func(int) bool) {
		for c := range p.cells() {
			if p.at(c) != piece {
				continue
			}
			for d := range c.beside() {
				if other := p.at(d); other != piece && !yield(other) {
					return
				}
			}
		}
	}
}

// outside returns the pieces from which the border is reached without some piece.
func (p picture) outside(without int) pieceSet {
	var reached pieceSet
	var reach func(piece int)
	reach = func(piece int) {
		if piece == api.NoPiece || piece == without || reached[piece] {
			return
		}
		reached[piece] = true
		for other := range p.faced(piece) {
			reach(other)
		}
	}
	for piece := range p.pieces {
		for other := range p.faced(piece) {
			if other == api.NoPiece {
				reach(piece)
			}
		}
	}
	return reached
}

// tally returns how often each value comes in a sequence.
func tally[T comparable](l iter.Seq[T]) map[T]int {
	many := map[T]int{}
	for x := range l {
		many[x]++
	}
	return many
}
