package solve

import (
	"iter"
	"maps"
	"slices"

	"jigworks/api"
)

// lies returns whether a piece that is laid can lie in its cell, beside all that is laid.
func (b board) lies(l []api.Lay, cell int) bool {
	for side := range 4 {
		own := sideAt(l[cell], side)
		other, ok := b.behind(cell, side)
		if !ok && !b.isFlat(own) {
			return false
		}
		if ok && other < len(l) && !b.perhaps(own, sideAt(l[other], opposite(side))) {
			return false
		}
	}
	return true
}

// solutions yields all solutions, in their order.
func (b board) solutions() iter.Seq[[]api.Lay] {
	return func(yield func([]api.Lay) bool) {
		laid := make([]bool, len(b.Pieces))
		var l []api.Lay
		// fill fills the next cell, and all behind it, and returns whether to go on.
		var fill func() bool
		fill = func() bool {
			cell := len(l)
			if cell == len(b.Pieces) {
				return yield(slices.Clone(l))
			}
			for piece := range b.Pieces {
				if laid[piece] {
					continue
				}
				laid[piece] = true
				for turn := range b.turns(piece) {
					l = append(l, api.Lay{Piece: piece, Turn: turn})
					if b.lies(l, cell) && !fill() {
						return false
					}
					l = l[:cell]
				}
				laid[piece] = false
			}
			return true
		}
		fill()
	}
}

// joinsIn yields the joins that are in a solution.
func (b board) joinsIn(l []api.Lay) iter.Seq[api.Join] {
	return func(yield func(api.Join) bool) {
		for cell := range l {
			// To the right and below: the other two sides are met by those of the cells before.
			for side := 1; side <= 2; side++ {
				other, ok := b.behind(cell, side)
				if ok && !yield(joinOf(sideAt(l[cell], side), sideAt(l[other], opposite(side)))) {
					return
				}
			}
		}
	}
}

// falseJoins returns the joins that are in no solution.
func (b board) falseJoins() []api.Join {
	left := b.joins(b.perhaps)
	for l := range b.solutions() {
		for j := range b.joinsIn(l) {
			left = slices.DeleteFunc(left, func(other api.Join) bool { return other == j })
		}
	}
	return left
}

// cellsOf returns the set of the cells in which a piece lies in some solution.
func (b board) cellsOf(piece int) int {
	cells := 0
	for l := range b.solutions() {
		cells |= 1 << slices.IndexFunc(l, func(x api.Lay) bool { return x.Piece == piece })
	}
	return cells
}

// twins returns the pairs of pieces that can change places, in their order.
func (b board) twins() [][2]int {
	found := map[[2]int]bool{}
	for l := range b.solutions() {
		for i := range l {
			for j := range i {
				pair := [2]int{min(l[i].Piece, l[j].Piece), max(l[i].Piece, l[j].Piece)}
				if !found[pair] && b.canChange(l, i, j) {
					found[pair] = true
				}
			}
		}
	}
	pairs := slices.Collect(maps.Keys(found))
	sortBy(pairs, func(p [2]int) int { return p[0] }, func(p [2]int) int { return p[1] })
	return pairs
}

// canChange returns whether a solution stays one if the pieces in two cells change places, each of them turned as the other one was.
func (b board) canChange(l []api.Lay, i, j int) bool {
	l = slices.Clone(l)
	l[i].Piece, l[j].Piece = l[j].Piece, l[i].Piece
	for _, cell := range []int{i, j} {
		if !b.isPut(api.Put{Cell: cell, Lay: l[cell]}) || !b.lies(l, cell) {
			return false
		}
	}
	return true
}
