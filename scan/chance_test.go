package scan_test

import (
	"math"
	"slices"

	"jigworks/api"
)

// seeds makes numbers that look like chance, always the same ones.
type seeds uint64

// upTo returns a number from 0 to n - 1.
func (s *seeds) upTo(n int) int {
	*s = *s*6364136223846793005 + 1442695040888963407
	return int(uint64(*s)>>33) % n
}

// about returns a span about a number.
func (s *seeds) about(n, wide int) api.Span {
	lo := n + s.upTo(2*wide+1) - wide
	return span(lo, lo+s.upTo(wide+1))
}

// order returns the numbers from 0 to n - 1 in some order.
func (s *seeds) order(n int) []int {
	l := make([]int, n)
	for i := range l {
		j := s.upTo(i + 1)
		l[i] = l[j]
		l[j] = i
	}
	return l
}

// mates returns a tab and a hole of one of some sizes, which fit always.
func (s *seeds) mates(sizes int) (api.Edge, api.Edge) {
	size := 12 * s.upTo(sizes)
	t := api.Edge{Kind: api.EdgeTab, At: s.about(900, 3), Wide: s.about(500+size, 3), Deep: s.about(400, 2)}
	h := api.Edge{Kind: api.EdgeHole, At: s.about(1100, 3), Wide: s.about(515+size, 3), Deep: s.about(412, 2)}
	return t, h
}

// drawing returns a right drawing, its sides of some sizes. The fewer sizes there are, the more of its pieces are alike.
func (s *seeds) drawing(wide, high, sizes int) api.Puzzle {
	d := blanks(wide, high)
	for cell := range d.Pieces {
		for _, side := range []int{1, 2} {
			other := next(d, cell, side)
			if other < 0 {
				continue
			}
			a, b := s.mates(sizes)
			if s.upTo(2) == 0 {
				a, b = b, a
			}
			d.Pieces[cell].Edges[side], d.Pieces[other].Edges[(side+2)%4] = a, b
		}
	}
	return d
}

// around returns a span that contains some number of another one.
func (s *seeds) around(x api.Span, wide int) api.Span {
	n := x.Lo + s.upTo(x.Hi-x.Lo+1)
	return span(n-s.upTo(wide+1), n+s.upTo(wide+1))
}

// scanOf returns a scan that contains what is true of a piece, which lies turned so that it must be turned by some quarters.
func (s *seeds) scanOf(p api.Piece, turn, wide int) api.Piece {
	for i, e := range p.Edges {
		if e.Kind != api.EdgeFlat {
			p.Edges[i] = api.Edge{Kind: e.Kind, At: s.around(e.At, wide), Wide: s.around(e.Wide, wide), Deep: s.around(e.Deep, wide)}
		}
	}
	return turned(p, (4-turn)%4)
}

// sorted is a pile, and its true places.
type sorted struct {
	p    api.Pile
	true []api.Seat
}

// pile returns a pile of a right drawing, as it is found: some pieces lost, some from another box, some that hang together, each scan wider by so much.
func (s *seeds) pile(cells, other api.Puzzle, wide int) sorted {
	n := len(cells.Pieces)
	lost, foreign := s.upTo(n+1), s.upTo(min(3, len(other.Pieces))+1)
	x := sorted{p: api.Pile{Drawing: cells, Lost: min(9, lost+s.upTo(2)), Foreign: min(3, foreign+s.upTo(2))}}
	// from is where scans truly are: aliens in the cells of another drawing, which come after its own.
	from := s.order(n)[lost:]
	for _, cell := range s.order(len(other.Pieces))[:foreign] {
		from = append(from, n+cell)
	}
	var at []api.Seat
	for _, i := range s.order(len(from)) {
		seat := api.Seat{Cell: from[i], Turn: s.upTo(4)}
		at = append(at, seat)
		if seat.Cell < n {
			x.true = append(x.true, seat)
			x.p.Scans = append(x.p.Scans, s.scanOf(cells.Pieces[seat.Cell], seat.Turn, wide))
		} else {
			x.true = append(x.true, api.Seat{Cell: -2})
			x.p.Scans = append(x.p.Scans, s.scanOf(other.Pieces[seat.Cell-n], seat.Turn, wide))
		}
	}
	for _, j := range neighbours(cells, other, at) {
		if s.upTo(3) == 0 && len(x.p.Hang) < api.MaxHang {
			x.p.Hang = append(x.p.Hang, s.flipped(j))
		}
	}
	return x
}

// neighbours returns all joins of scans that lie so in one of two drawings.
func neighbours(cells, other api.Puzzle, at []api.Seat) []api.Join {
	var l []api.Join
	n := len(cells.Pieces)
	for a, x := range at {
		for b, y := range at {
			for _, side := range []int{1, 2} {
				meet := x.Cell < n && next(cells, x.Cell, side) == y.Cell || x.Cell >= n && y.Cell >= n && next(other, x.Cell-n, side) == y.Cell-n
				if meet {
					l = append(l, api.Join{A: a, I: (side - x.Turn + 4) % 4, B: b, J: (side + 2 - y.Turn + 4) % 4})
				}
			}
		}
	}
	return l
}

// flipped returns a join, or the same one the other way round.
func (s *seeds) flipped(j api.Join) api.Join {
	if s.upTo(2) == 0 {
		return api.Join{A: j.B, I: j.J, B: j.A, J: j.I}
	}
	return j
}

// sizes returns how wide and high drawings can be, with at most so many pieces.
func sizes(most int) [][2]int {
	var l [][2]int
	for wide := 1; wide <= most; wide++ {
		for high := 1; wide*high <= most; high++ {
			l = append(l, [2]int{wide, high})
		}
	}
	return l
}

// some yields piles of all sizes, with at most so many pieces, as they are found.
func (s *seeds) some(most, rounds int) func(yield func(sorted) bool) {
	return func(yield func(sorted) bool) {
		for range rounds {
			for _, size := range sizes(most) {
				kinds, wide := 1+s.upTo(4), []int{0, 2, 5, 12, 30}[s.upTo(5)]
				cells := s.drawing(size[0], size[1], kinds)
				other := s.drawing(size[1], size[0], kinds)
				if s.upTo(3) == 0 {
					other = cells
				}
				if !yield(s.pile(cells, other, wide)) {
					return
				}
			}
		}
	}
}

// spoiled returns a pile that is still valid, but perhaps not true.
func (s *seeds) spoiled(p api.Pile) api.Pile {
	p = copyPile(p)
	n := len(p.Scans)
	switch s.upTo(6) {
	case 0:
		p.Lost = max(0, p.Lost-1)
	case 1:
		p.Foreign = max(0, p.Foreign-1)
	case 2:
		p.Drawing.Pieces[s.upTo(len(p.Drawing.Pieces))].Edges[s.upTo(4)] = p.Drawing.Pieces[0].Edges[s.upTo(4)]
	case 3:
		if n > 0 {
			p.Scans[s.upTo(n)].Edges[s.upTo(4)] = p.Scans[s.upTo(n)].Edges[s.upTo(4)]
		}
	case 4:
		if len(p.Hang) > 0 {
			p.Hang[s.upTo(len(p.Hang))].I = s.upTo(4)
		}
	case 5:
		if n > 1 && len(p.Hang) < api.MaxHang {
			a := s.upTo(n)
			p.Hang = append(p.Hang, api.Join{A: a, I: s.upTo(4), B: (a + 1 + s.upTo(n-1)) % n, J: s.upTo(4)})
		}
	}
	return p
}

// anything returns some number, often one that is at a bound.
func (s *seeds) anything() int {
	l := []int{0, 0, 0, 1, 1, 2, 3, 4, 5, 9, 10, 12, -1, -2, 500, 1000, 3000, 10000, 10001, math.MaxInt, math.MinInt, math.MaxInt - 1, 1 << 32}
	return l[s.upTo(len(l))]
}

func (s *seeds) anySpan() api.Span { return span(s.anything(), s.anything()) }

func (s *seeds) anyEdge() api.Edge {
	return api.Edge{Kind: s.anything(), At: s.anySpan(), Wide: s.anySpan(), Deep: s.anySpan()}
}

// spoiledByAnything returns a pile, perhaps not a valid one.
func (s *seeds) spoiledByAnything(p api.Pile) api.Pile {
	p = s.spoiled(p)
	for range s.upTo(3) {
		d := &p.Drawing
		switch s.upTo(9) {
		case 0:
			d.Wide = s.anything()
		case 1:
			d.High = s.anything()
		case 2:
			d.Pieces = slices.Repeat(d.Pieces, s.upTo(3))
		case 3:
			d.Play = api.Play{Length: s.anything(), Slack: s.anything(), Loose: s.anything(), Damp: s.anySpan()}
		case 4:
			if len(d.Pieces) > 0 {
				d.Pieces[s.upTo(len(d.Pieces))].Edges[s.upTo(4)] = s.anyEdge()
			}
		case 5:
			if len(p.Scans) > 0 {
				p.Scans[s.upTo(len(p.Scans))].Edges[s.upTo(4)] = s.anyEdge()
			}
		case 6:
			p.Scans = slices.Repeat(p.Scans, s.upTo(3))
		case 7:
			p.Hang = append(p.Hang, api.Join{A: s.anything(), I: s.anything(), B: s.anything(), J: s.anything()})
		case 8:
			p.Lost, p.Foreign = s.anything(), s.anything()
		}
	}
	return p
}
