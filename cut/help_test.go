package cut_test

import (
	"slices"

	"jigworks/api"
	"jigworks/cut"
)

// rows returns a picture that is so wide, row by row.
func rows(wide int, l ...int) api.Cut {
	return api.Cut{Wide: wide, High: len(l) / wide, Piece: l}
}

func cutA() api.Cut { return rows(4, 0, 0, 1, 1, 0, 2, 2, 1, 3, 3, 3, 3) }

func cutB() api.Cut { return rows(3, 0, 0, 1, 2, 3, 1) }

func cutC() api.Cut { return rows(3, 0, 0, 0, 0, 1, 0, 0, 0, 0) }

// shells is a square in a ring in a ring.
func shells() api.Cut {
	return rows(5, 0, 0, 0, 0, 0, 0, 1, 1, 1, 0, 0, 1, 2, 1, 0, 0, 1, 1, 1, 0, 0, 0, 0, 0, 0)
}

// crossing has a point with four edges, but three pieces: the piece 0 goes around the piece 1.
func crossing() api.Cut {
	return rows(4, 0, 0, 0, 0, 0, 0, 1, 0, 2, 2, 0, 0)
}

// bricks is a picture of the greatest size, of bricks that are so wide and high.
func bricks(wide, high int) api.Cut {
	c := api.Cut{Wide: api.MaxSide, High: api.MaxSide}
	for y := range c.High {
		for x := range c.Wide {
			c.Piece = append(c.Piece, y/high*(c.Wide/wide)+x/wide)
		}
	}
	return c
}

// most has as many pieces as there can be: all but one of them are single cells.
func most() api.Cut {
	c := api.Cut{Wide: api.MaxSide, High: api.MaxSide}
	for i := range c.Wide * c.High {
		c.Piece = append(c.Piece, min(i, api.MaxPieces-1))
	}
	return c
}

// patched joins neighbours among bricks, by numbers that follow from a seed.
func patched(seed int) api.Cut {
	c := bricks(2, 2)
	for range 28 {
		seed = (seed*1103515245 + 12345) % (1 << 31)
		a := (seed >> 8) % (slices.Max(c.Piece) + 1)
		l, _ := cut.Sides(c, a)
		if b := l[(seed>>16)%len(l)].Piece; b != api.NoPiece {
			c, _ = cut.Join(c, a, b)
		}
	}
	return c
}

// smallCuts returns all good cuts of a size whose pieces are numbered as they come.
func smallCuts(wide, high int) []api.Cut {
	var found []api.Cut
	l := make([]int, wide*high)
	var fill func(i, next int)
	fill = func(i, next int) {
		if i == len(l) {
			c := rows(wide, slices.Clone(l)...)
			if _, e := slowCheck(c); e == api.OK {
				found = append(found, c)
			}
			return
		}
		for n := range next + 1 {
			l[i] = n
			fill(i+1, max(next, n+1))
		}
	}
	fill(0, 0)
	return found
}

// goodCuts returns the cuts of which all that P1.8 says is tested.
func goodCuts() []api.Cut {
	l := []api.Cut{cutA(), cutB(), cutC(), shells(), crossing(), bricks(2, 2), bricks(4, 1), bricks(12, 12), most()}
	for _, size := range [][2]int{{1, 1}, {1, 5}, {5, 1}, {2, 3}, {3, 2}, {4, 2}, {3, 3}} {
		l = append(l, smallCuts(size[0], size[1])...)
	}
	for seed := range 20 {
		l = append(l, patched(seed))
	}
	return l
}

// slowCheck does what Check does with a cut, in another way: it spreads the least cell of each part until nothing changes.
func slowCheck(c api.Cut) (int, api.Errno) {
	greatest := slices.Max(c.Piece)
	for n := range greatest {
		if !slices.Contains(c.Piece, n) {
			return n, api.ErrNone
		}
	}
	least := make([]int, len(c.Piece))
	for i := range least {
		least[i] = i
	}
	for range least {
		for i := range least {
			for j := range least {
				if c.Piece[i] == c.Piece[j] && nextTo(c, i, j) {
					least[i] = min(least[i], least[j])
				}
			}
		}
	}
	for n := range greatest {
		for i, m := range c.Piece {
			if m == n && least[i] != slices.Index(c.Piece, n) {
				return n, api.ErrState
			}
		}
	}
	for i, m := range c.Piece {
		if m == greatest && least[i] != slices.Index(c.Piece, greatest) {
			return greatest, api.ErrState
		}
	}
	return greatest + 1, api.OK
}

// nextTo returns whether two cells, given as elements, are next to one another.
func nextTo(c api.Cut, i, j int) bool {
	dx, dy := i%c.Wide-j%c.Wide, i/c.Wide-j/c.Wide
	return dx*dx+dy*dy == 1
}

// common returns how many edges each two pieces have in common, and each piece with the border.
func common(c api.Cut) map[[2]int]int {
	edges := map[[2]int]int{}
	for i, a := range c.Piece {
		inner := 0
		for j, b := range c.Piece {
			if nextTo(c, i, j) {
				inner++
				edges[[2]int{a, b}]++
			}
		}
		edges[[2]int{a, api.NoPiece}] += 4 - inner
	}
	return edges
}

// turned returns a picture whose cells are those of another picture at the places that from names.
func turned(c api.Cut, wide, high int, from func(x, y int) (int, int)) api.Cut {
	t := api.Cut{Wide: wide, High: high}
	for y := range high {
		for x := range wide {
			i, j := from(x, y)
			t.Piece = append(t.Piece, c.Piece[j*c.Wide+i])
		}
	}
	return t
}

// turns returns a picture upside down, left for right, and with its rows made columns.
func turns(c api.Cut) []api.Cut {
	return []api.Cut{
		turned(c, c.Wide, c.High, func(x, y int) (int, int) { return x, c.High - 1 - y }),
		turned(c, c.Wide, c.High, func(x, y int) (int, int) { return c.Wide - 1 - x, y }),
		turned(c, c.High, c.Wide, func(x, y int) (int, int) { return y, x }),
	}
}

// part returns a rectangle of a picture, with its pieces numbered as they come.
func part(c api.Cut, left, top, right, bottom int) api.Cut {
	t := turned(c, right-left, bottom-top, func(x, y int) (int, int) { return left + x, top + y })
	numbers := map[int]int{}
	for i, n := range t.Piece {
		if _, ok := numbers[n]; !ok {
			numbers[n] = len(numbers)
		}
		t.Piece[i] = numbers[n]
	}
	return t
}

// halves returns the pictures on both sides of a line that goes through a whole picture.
func halves(c api.Cut, upright bool, at int) (first, rest api.Cut) {
	if upright {
		return part(c, 0, 0, at, c.High), part(c, at, 0, c.Wide, c.High)
	}
	return part(c, 0, 0, c.Wide, at), part(c, 0, at, c.Wide, c.High)
}

// splits returns whether a line that goes through a whole picture cuts no piece.
func splits(c api.Cut, upright bool, at int) bool {
	var before, behind []int
	for i, n := range c.Piece {
		if upright && i%c.Wide < at || !upright && i/c.Wide < at {
			before = append(before, n)
		} else {
			behind = append(behind, n)
		}
	}
	return !slices.ContainsFunc(before, func(n int) bool { return slices.Contains(behind, n) })
}
