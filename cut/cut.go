// Package cut is layer 1: see shared/doc/01-cut.md.
package cut

import (
	"slices"

	"jigworks/api"
)

// Check returns how many pieces a cut has.
func Check(c api.Cut) (pieces int, e api.Errno) {
	if !isCut(c) {
		return 0, api.ErrArg
	}
	return layOut(c).count()
}

// Sides returns what a piece has in common with others.
func Sides(c api.Cut, piece int) ([]api.Side, api.Errno) {
	p, e := open(c)
	if e != api.OK {
		return nil, e
	}
	if !p.has(piece) {
		return nil, api.ErrRange
	}
	edges := tally(p.faced(piece))
	var l []api.Side
	for other := api.NoPiece; other < p.pieces; other++ {
		if n := edges[other]; n > 0 {
			l = append(l, api.Side{Piece: other, Edges: n})
		}
	}
	return l, api.OK
}

// Lines returns what the lines of a cut are like.
func Lines(c api.Cut) (api.Lines, api.Errno) {
	p, e := open(c)
	if e != api.OK {
		return api.Lines{}, e
	}
	points := tally(p.points())
	return api.Lines{
		Length: tally(p.edges())[true],
		Bends:  points[bend],
		Joints: points[joint],
		Starts: points[start],
	}, api.OK
}

// Inside returns the pieces within a piece.
func Inside(c api.Cut, piece int) ([]int, api.Errno) {
	p, e := open(c)
	if e != api.OK {
		return nil, e
	}
	if !p.has(piece) {
		return nil, api.ErrRange
	}
	outside := p.outside(piece)
	var l []int
	for other := range p.pieces {
		if other != piece && !outside[other] {
			l = append(l, other)
		}
	}
	return l, api.OK
}

// Join makes two pieces one.
func Join(c api.Cut, a, b int) (api.Cut, api.Errno) {
	p, e := open(c)
	if e != api.OK {
		return api.Cut{}, e
	}
	if !p.has(a) || !p.has(b) || a == b {
		return api.Cut{}, api.ErrRange
	}
	if tally(p.faced(a))[b] == 0 {
		return api.Cut{}, api.ErrState
	}
	return api.Cut{Wide: c.Wide, High: c.High, Piece: joined(c.Piece, min(a, b), max(a, b))}, api.OK
}

// Saw returns the lines of a saw.
func Saw(c api.Cut) ([]api.Line, api.Errno) {
	p, e := open(c)
	if e != api.OK {
		return nil, e
	}
	l, ok := p.saw(block{right: c.Wide, bottom: c.High}, nil)
	if !ok {
		return nil, api.ErrRefuse
	}
	return l, api.OK
}

// isCut returns whether a cut has the form of one, be it good or not.
func isCut(c api.Cut) bool {
	if c.Wide < 1 || c.Wide > api.MaxSide || c.High < 1 || c.High > api.MaxSide {
		return false
	}
	wrong := func(n int) bool { return n < 0 || n >= api.MaxPieces }
	return len(c.Piece) == c.Wide*c.High && !slices.ContainsFunc(c.Piece, wrong)
}

// open returns the picture of a good cut, or the error of Check.
func open(c api.Cut) (picture, api.Errno) {
	if !isCut(c) {
		return picture{}, api.ErrArg
	}
	p := layOut(c)
	if _, e := p.count(); e != api.OK {
		return picture{}, e
	}
	return p, api.OK
}

// joined returns the numbers of the cells when the piece greater is a part of the piece lesser.
func joined(numbers []int, lesser, greater int) []int {
	l := slices.Clone(numbers)
	for i, n := range l {
		if n == greater {
			l[i] = lesser
		} else if n > greater {
			l[i] = n - 1
		}
	}
	return l
}
