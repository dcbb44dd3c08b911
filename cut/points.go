package cut

import (
	"iter"

	"jigworks/api"
)

// What a point is in the lines.
const (
	plain = iota
	bend
	joint
	start
)

// apart returns whether two cells that are next to one another have an edge of the lines in common.
func (p picture) apart(a, b cell) bool {
	one, other := p.at(a), p.at(b)
	return one != other && one != api.NoPiece && other != api.NoPiece
}

// edges yields, for each edge below a cell or on its right, whether it is in the lines.
func (p picture) edges() iter.Seq[bool] {
	return func(yield func(bool) bool) {
		for c := range p.cells() {
			for d := range c.beside() {
				// The edges above a cell and on its left are those of other cells, or on the border.
				if other := d.x < c.x || d.y < c.y; !other && !yield(p.apart(c, d)) {
					return
				}
			}
		}
	}
}

// points yields what each point is.
func (p picture) points() iter.Seq[int] {
	return func(yield func(int) bool) {
		for y := range p.high + 1 {
			for x := range p.wide + 1 {
				if !yield(p.point(x, y)) {
					return
				}
			}
		}
	}
}

// point returns what the point on the left of the column x, and above the row y, is.
func (p picture) point(x, y int) int {
	around := [4]cell{{x - 1, y - 1}, {x, y - 1}, {x, y}, {x - 1, y}}
	var lines [4]bool
	many := 0
	for i, c := range around {
		lines[i] = p.apart(c, around[(i+1)%4])
		if lines[i] {
			many++
		}
	}
	switch {
	case many == 1:
		// Of four cells in a ring no single one differs from the next: this point is on the border.
		return start
	case many == 2 && lines[0] != lines[2]:
		return bend
	case many > 2:
		return joint
	}
	return plain
}
