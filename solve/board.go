package solve

import (
	"cmp"
	"slices"

	"jigworks/api"
	"jigworks/fit"
)

// board is a puzzle, and which of its sides meet. Sides are numbered piece by piece: the side s of the piece p is 4p + s.
type board struct {
	api.Puzzle
	meet map[[2]int]int
}

// boardOf returns a board for a puzzle, and whether the puzzle is valid.
func boardOf(z api.Puzzle) (board, bool) {
	b := board{Puzzle: z, meet: map[[2]int]int{}}
	return b, b.isFull() && b.match()
}

// isFull returns whether there are as many pieces as cells, and neither too few nor too many.
func (b board) isFull() bool {
	n := len(b.Pieces)
	// Of great numbers the product could be n, too, as it wraps around.
	return n <= api.MaxPuzzle && b.Wide >= 1 && b.Wide <= n && b.High >= 1 && b.High <= n && b.Wide*b.High == n
}

// match finds which sides meet, and returns whether all of them are valid.
func (b board) match() bool {
	all := b.sides()
	for i, s := range all {
		sure, may, e := fit.Matches(b.Play, s, all)
		if e != api.OK {
			return false
		}
		for _, j := range may {
			b.meet[[2]int{i, j}] = api.FitPerhaps
		}
		for _, j := range sure {
			b.meet[[2]int{i, j}] = api.FitAlways
		}
	}
	return true
}

func (b board) sides() []api.Edge {
	var l []api.Edge
	for _, p := range b.Pieces {
		l = append(l, p.Edges[:]...)
	}
	return l
}

// surely and perhaps return whether two sides meet surely, and whether they may meet.
func (b board) surely(x, y int) bool { return b.meet[[2]int{x, y}] == api.FitAlways }

func (b board) perhaps(x, y int) bool { return b.meet[[2]int{x, y}] != api.FitNever }

// isNumber returns whether there is a piece, or a cell, with this number.
func (b board) isNumber(n int) bool { return n >= 0 && n < len(b.Pieces) }

// turns returns in how many ways a piece can be turned: from 0 quarters on.
func (b board) turns(piece int) int {
	if b.Turn && piece != 0 {
		return 4
	}
	return 1
}

// behind returns the cell behind a side of a cell, and whether there is one.
func (b board) behind(cell, side int) (int, bool) {
	x, y := cell%b.Wide, cell/b.Wide
	switch side {
	case 0:
		y--
	case 1:
		x++
	case 2:
		y++
	case 3:
		x--
	}
	return y*b.Wide + x, x >= 0 && x < b.Wide && y >= 0 && y < b.High
}

// sideAt returns which side of a piece lies on a side of its cell.
func sideAt(l api.Lay, side int) int { return 4*l.Piece + (side-l.Turn+4)%4 }

func opposite(side int) int { return (side + 2) % 4 }

func (b board) isFlat(side int) bool { return b.Pieces[side/4].Edges[side%4].Kind == api.EdgeFlat }

// joinOf returns two sides of two pieces as a join.
func joinOf(x, y int) api.Join {
	x, y = min(x, y), max(x, y)
	return api.Join{A: x / 4, I: x % 4, B: y / 4, J: y % 4}
}

// joins returns the joins whose sides are as they are asked to be, in their order.
func (b board) joins(are func(x, y int) bool) []api.Join {
	var l []api.Join
	for pair := range b.meet {
		x, y := pair[0], pair[1]
		if x/4 < y/4 && are(x, y) {
			l = append(l, joinOf(x, y))
		}
	}
	sortBy(l,
		func(j api.Join) int { return j.A },
		func(j api.Join) int { return j.I },
		func(j api.Join) int { return j.B },
		func(j api.Join) int { return j.J })
	return l
}

// sortBy sorts a list by numbers of its elements, the first number first.
func sortBy[T any](l []T, numbers ...func(T) int) {
	slices.SortFunc(l, func(a, b T) int {
		for _, n := range numbers {
			if c := cmp.Compare(n(a), n(b)); c != 0 {
				return c
			}
		}
		return 0
	})
}
