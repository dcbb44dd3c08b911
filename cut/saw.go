package cut

import (
	"iter"

	"jigworks/api"
)

// block is a rectangle of cells; right and bottom are behind its last column and row.
type block struct{ left, top, right, bottom int }

// cells yields the cells of a block, row by row.
func (b block) cells() iter.Seq[cell] {
	return func(yield func(cell) bool) {
		for y := b.top; y < b.bottom; y++ {
			for x := b.left; x < b.right; x++ {
				if !yield(cell{x, y}) {
					return
				}
			}
		}
	}
}

func (b block) rows() (from, to int) { return b.top, b.bottom }

func (b block) columns() (from, to int) { return b.left, b.right }

// splitAcross returns the parts above and below a line.
func (b block) splitAcross(at int) (block, block) {
	return block{b.left, b.top, b.right, at}, block{b.left, at, b.right, b.bottom}
}

// splitUpright returns the parts on the left and on the right of a line.
func (b block) splitUpright(at int) (block, block) {
	return block{b.left, b.top, at, b.bottom}, block{at, b.top, b.right, b.bottom}
}

// direction is how lines lie: between which rows or columns they are, along which ones they go, and how they split a block.
type direction struct {
	upright        bool
	between, along func(block) (from, to int)
	split          func(block, int) (block, block)
}

// directions returns both directions, the first one first.
func directions() []direction {
	return []direction{
		{false, block.rows, block.columns, block.splitAcross},
		{true, block.columns, block.rows, block.splitUpright},
	}
}

// stroke is a line of the saw, and the parts on both sides of it.
type stroke struct {
	line        api.Line
	first, rest block
}

// within returns the pieces that have cells in a block.
func (p picture) within(b block) pieceSet {
	var l pieceSet
	for n := range p.numbers(b) {
		l[n] = true
	}
	return l
}

// whole returns whether all cells of a block are of one piece.
func (p picture) whole(b block) bool {
	return len(tally(p.numbers(b))) == 1
}

// numbers yields the piece of each cell of a block.
func (p picture) numbers(b block) iter.Seq[int] {
	return func(yield func(int) bool) {
		for c := range b.cells() {
			if !yield(p.at(c)) {
				return
			}
		}
	}
}

// next returns the first line that goes through a block and cuts no piece, if there is one.
func (p picture) next(b block) (s stroke, ok bool) {
	for _, d := range directions() {
		from, to := d.between(b)
	lines:
		for at := from + 1; at < to; at++ {
			first, rest := d.split(b, at)
			before := p.within(first)
			for n := range p.numbers(rest) {
				if before[n] {
					continue lines
				}
			}
			along, end := d.along(b)
			return stroke{api.Line{Upright: d.upright, At: at, From: along, To: end}, first, rest}, true
		}
	}
	return stroke{}, false
}

// saw saws a block, and returns the lines done before with those of the block behind them.
func (p picture) saw(b block, done []api.Line) ([]api.Line, bool) {
	if p.whole(b) {
		return done, true
	}
	s, ok := p.next(b)
	if !ok {
		return nil, false
	}
	done, ok = p.saw(s.first, append(done, s.line))
	if !ok {
		return nil, false
	}
	return p.saw(s.rest, done)
}
