package solve_test

import (
	"cmp"
	"math"
	"slices"
	"strings"

	"jigworks/api"
	"jigworks/fit"
)

func span(lo, hi int) api.Span { return api.Span{Lo: lo, Hi: hi} }

func exact(kind, wide, deep int) api.Edge {
	return api.Edge{Kind: kind, At: span(1000, 1000), Wide: span(wide, wide), Deep: span(deep, deep)}
}

// play is what the examples of the chapter allow.
func play() api.Play {
	return api.Play{Length: 2000, Slack: 20, Loose: 30, Damp: span(0, 10)}
}

// edge returns the side that a letter stands for: `-` is flat, a small letter is a tab, a great one a hole. The tab `p` is the one of the chapter: it goes into the hole `A` perhaps. `b` and `B` go into one another alone.
func edge(letter byte) api.Edge {
	switch letter {
	case 'a':
		return exact(api.EdgeTab, 500, 400)
	case 'A':
		return exact(api.EdgeHole, 515, 410)
	case 'p':
		s := exact(api.EdgeTab, 500, 400)
		s.Wide = span(480, 490)
		return s
	case 'b':
		return exact(api.EdgeTab, 560, 400)
	case 'B':
		return exact(api.EdgeHole, 575, 410)
	}
	return api.Edge{}
}

// puzzle returns a puzzle whose pieces are words: of each the sides above, to the right, below, to the left.
func puzzle(wide, high int, turn bool, words string) api.Puzzle {
	z := api.Puzzle{Play: play(), Wide: wide, High: high, Turn: turn}
	for _, w := range strings.Fields(words) {
		var p api.Piece
		for s := range p.Edges {
			p.Edges[s] = edge(w[s])
		}
		z.Pieces = append(z.Pieces, p)
	}
	return z
}

// The puzzles of the chapter's examples.
func puzzleS() api.Puzzle { return puzzle(4, 1, false, "-a-- -a-A -p-A ---A") }
func puzzleQ() api.Puzzle { return puzzle(2, 2, true, "-aa- --aA Ap-- A--A") }

// pinwheel is a puzzle whose pieces are all alike, each in its corner turned otherwise.
func pinwheel() api.Puzzle { return puzzle(2, 2, true, "-aA- -aA- -aA- -aA-") }

// row is a puzzle that is one piece high, and cannot be turned, with alike pieces between two ends.
func row(wide int) api.Puzzle {
	return puzzle(wide, 1, false, "-a-- "+strings.Repeat("-a-A ", wide-2)+"---A")
}

// lays returns pieces that are not turned.
func lays(pieces ...int) []api.Lay {
	var l []api.Lay
	for _, p := range pieces {
		l = append(l, api.Lay{Piece: p})
	}
	return l
}

func copyOf(z api.Puzzle) api.Puzzle {
	z.Pieces = slices.Clone(z.Pieces)
	return z
}

func same(a, b api.Puzzle) bool {
	return a.Play == b.Play && a.Wide == b.Wide && a.High == b.High && a.Turn == b.Turn && slices.Equal(a.Pieces, b.Pieces)
}

// badPuzzles returns puzzles that are not valid.
func badPuzzles() []api.Puzzle {
	var l []api.Puzzle
	change := func(f func(z *api.Puzzle)) {
		for _, z := range []api.Puzzle{puzzleS(), puzzleQ(), row(9), puzzle(1, 1, false, "----")} {
			f(&z)
			l = append(l, z)
		}
	}
	for _, n := range []int{0, -1, 3, 5, 10, math.MinInt, math.MaxInt} {
		change(func(z *api.Puzzle) { z.Wide = n })
		change(func(z *api.Puzzle) { z.High = n })
	}
	change(func(z *api.Puzzle) { z.Wide, z.High = -z.Wide, -z.High })
	change(func(z *api.Puzzle) { z.Pieces = nil })
	change(func(z *api.Puzzle) { z.Pieces = []api.Piece{} })
	change(func(z *api.Puzzle) { z.Wide, z.High, z.Pieces = 0, 0, nil })
	change(func(z *api.Puzzle) { z.Wide, z.High, z.Pieces = 0, 5, nil })
	change(func(z *api.Puzzle) { z.Pieces = z.Pieces[1:] })
	change(func(z *api.Puzzle) { z.Pieces = append(z.Pieces, z.Pieces[0]) })
	// Five times this is 4, as it wraps around.
	change(func(z *api.Puzzle) { z.Wide, z.High, z.Pieces = 5, 3689348814741910324, puzzleS().Pieces })
	change(func(z *api.Puzzle) { z.Wide, z.High, z.Pieces = 3689348814741910324, 5, puzzleS().Pieces })
	change(func(z *api.Puzzle) { z.Wide, z.High, z.Pieces = 10, 1, row(10).Pieces })
	change(func(z *api.Puzzle) { z.Wide, z.High, z.Pieces = 4, 3, row(12).Pieces })
	for _, p := range []api.Play{
		{}, {Length: -1}, {Length: api.MaxLength + 1}, {Length: 1, Slack: -1}, {Length: 1, Slack: api.MaxSlack + 1}, {Length: 1, Loose: -1},
		{Length: 1, Loose: api.MaxSlack + 1}, {Length: 1, Damp: span(-1, 0)}, {Length: 1, Damp: span(1, 0)}, {Length: 1, Damp: span(0, api.MaxDamp+1)},
	} {
		change(func(z *api.Puzzle) { z.Play = p })
	}
	good := edge('a')
	for _, s := range []api.Edge{
		{Kind: -1}, {Kind: 3}, {Kind: math.MinInt}, {Kind: math.MaxInt}, {Kind: api.EdgeTab}, {Kind: api.EdgeHole},
		{Kind: 1, At: span(-1, 5), Wide: good.Wide, Deep: good.Deep}, {Kind: 2, At: span(2, 1), Wide: good.Wide, Deep: good.Deep},
		{Kind: 1, At: span(0, api.MaxLength+1), Wide: good.Wide, Deep: good.Deep}, {Kind: 2, At: good.At, Wide: span(0, 1), Deep: good.Deep},
		{Kind: 1, At: good.At, Wide: span(5, 4), Deep: good.Deep}, {Kind: 2, At: good.At, Wide: span(5, api.MaxTab+1), Deep: good.Deep},
		{Kind: 1, At: good.At, Wide: good.Wide, Deep: span(0, 1)}, {Kind: 2, At: good.At, Wide: good.Wide, Deep: span(2, 1)},
		{Kind: 1, At: good.At, Wide: good.Wide, Deep: span(5, api.MaxTab+1)},
	} {
		for side := range 4 {
			change(func(z *api.Puzzle) { z.Pieces[0].Edges[side] = s })
			change(func(z *api.Puzzle) { z.Pieces[len(z.Pieces)-1].Edges[side] = s })
		}
	}
	return l
}

// seeds makes numbers that look like chance, always the same ones.
type seeds uint64

// upTo returns a number from 0 to n - 1.
func (s *seeds) upTo(n int) int {
	*s = *s*6364136223846793005 + 1442695040888963407
	return int(uint64(*s)>>33) % n
}

// within returns a span within a span.
func (s *seeds) within(x api.Span) api.Span {
	lo := x.Lo + s.upTo(x.Hi-x.Lo+1)
	return span(lo, lo+s.upTo(x.Hi-lo+1))
}

// about returns a span about a number.
func (s *seeds) about(n, wide int) api.Span {
	lo := n + s.upTo(2*wide+1) - wide
	return span(lo, lo+s.upTo(wide+1))
}

// order returns the numbers from 0 to n - 1 in some order.
func (s *seeds) order(n int) []int {
	l := make([]int, n)
	for i := range l {
		j := s.upTo(i + 1)
		l[i] = l[j]
		l[j] = i
	}
	return l
}

// mates returns a tab and a hole of one of some sizes, which fit, or nearly so.
func (s *seeds) mates(sizes int) (api.Edge, api.Edge) {
	size := 12 * s.upTo(sizes)
	wide := 1 + 3*s.upTo(3)
	t := api.Edge{Kind: api.EdgeTab, At: s.about(900, 3), Wide: s.about(500+size, wide), Deep: s.about(400, 2)}
	h := api.Edge{Kind: api.EdgeHole, At: s.about(1100, 3), Wide: s.about(515+size, wide), Deep: s.about(412, 2)}
	return t, h
}

// turned returns a piece after some quarters to the right.
func turned(p api.Piece, quarters int) api.Piece {
	for range quarters {
		e := p.Edges
		p.Edges = [4]api.Edge{e[3], e[0], e[1], e[2]}
	}
	return p
}

// some returns a puzzle that was cut from a picture, its sides of some sizes, and what it was laid like. The fewer sizes there are, the more solutions it has.
func (s *seeds) some(wide, high int, turn bool, sizes int) (api.Puzzle, []api.Lay) {
	n := wide * high
	cells := make([]api.Piece, n)
	for cell := range n {
		for _, side := range []int{1, 2} {
			other := cell + 1
			if side == 2 {
				other = cell + wide
			}
			if side == 1 && other%wide == 0 || other >= n {
				continue
			}
			a, b := s.mates(sizes)
			if s.upTo(2) == 0 {
				a, b = b, a
			}
			cells[cell].Edges[side], cells[other].Edges[(side+2)%4] = a, b
		}
	}
	z := api.Puzzle{Play: play(), Wide: wide, High: high, Turn: turn, Pieces: make([]api.Piece, n)}
	laid := make([]api.Lay, n)
	for cell, piece := range s.order(n) {
		laid[cell].Piece = piece
		if turn && piece > 0 {
			laid[cell].Turn = s.upTo(4)
		}
		z.Pieces[piece] = turned(cells[cell], (4-laid[cell].Turn)%4)
	}
	return z, laid
}

// spoiled returns a puzzle with a side of one piece as that of another one.
func (s *seeds) spoiled(z api.Puzzle) api.Puzzle {
	z = copyOf(z)
	n := len(z.Pieces)
	z.Pieces[s.upTo(n)].Edges[s.upTo(4)] = z.Pieces[s.upTo(n)].Edges[s.upTo(4)]
	return z
}

// sizes returns how wide and high puzzles can be, with at most so many pieces.
func sizes(most int) [][2]int {
	var l [][2]int
	for wide := 1; wide <= most; wide++ {
		for high := 1; wide*high <= most; high++ {
			l = append(l, [2]int{wide, high})
		}
	}
	return l
}

// mayMeet returns whether two sides may meet.
func mayMeet(z api.Puzzle, a, b api.Edge) bool {
	n, _ := fit.Fit(z.Play, a, b)
	return n != api.FitNever
}

// agrees returns whether what lies in a cell can lie there: pieces that are turned already, row by row, or nil.
func agrees(z api.Puzzle, cells []*api.Piece, cell int) bool {
	x, y := cell%z.Wide, cell/z.Wide
	for side, next := range [4][2]int{{x, y - 1}, {x + 1, y}, {x, y + 1}, {x - 1, y}} {
		own := cells[cell].Edges[side]
		if next[0] < 0 || next[0] == z.Wide || next[1] < 0 || next[1] == z.High {
			if own.Kind != api.EdgeFlat {
				return false
			}
			continue
		}
		other := cells[next[0]+z.Wide*next[1]]
		if other != nil && !mayMeet(z, own, other.Edges[(side+2)%4]) {
			return false
		}
	}
	return true
}

// isSolution returns whether a laying is one.
func isSolution(z api.Puzzle, l []api.Lay) bool {
	cells := make([]*api.Piece, len(l))
	seen := map[int]bool{}
	for i, x := range l {
		if x.Piece < 0 || x.Piece >= len(z.Pieces) || seen[x.Piece] || x.Turn < 0 || x.Turn > 3 || x.Turn > 0 && (!z.Turn || x.Piece == 0) {
			return false
		}
		seen[x.Piece] = true
		p := turned(z.Pieces[x.Piece], x.Turn)
		cells[i] = &p
	}
	for i := range cells {
		if !agrees(z, cells, i) {
			return false
		}
	}
	return len(l) == len(z.Pieces)
}

func compareLays(a, b []api.Lay) int {
	return slices.CompareFunc(a, b, func(x, y api.Lay) int {
		return cmp.Or(cmp.Compare(x.Piece, y.Piece), cmp.Compare(x.Turn, y.Turn))
	})
}

// slowSolutions fills the cells from the last one to the first one, and puts what it finds in order.
func slowSolutions(z api.Puzzle) [][]api.Lay {
	n := len(z.Pieces)
	var found [][]api.Lay
	l := make([]api.Lay, n)
	cells := make([]*api.Piece, n)
	used := make([]bool, n)
	var fill func(cell int)
	fill = func(cell int) {
		if cell < 0 {
			found = append(found, slices.Clone(l))
			return
		}
		for piece := n - 1; piece >= 0; piece-- {
			for turn := 3; turn >= 0; turn-- {
				if used[piece] || turn > 0 && (!z.Turn || piece == 0) {
					continue
				}
				p := turned(z.Pieces[piece], turn)
				cells[cell], l[cell], used[piece] = &p, api.Lay{Piece: piece, Turn: turn}, true
				if agrees(z, cells, cell) {
					fill(cell - 1)
				}
				cells[cell], used[piece] = nil, false
			}
		}
	}
	fill(n - 1)
	slices.SortFunc(found, compareLays)
	return found
}

// allLays tries all orders and turns of a puzzle of few pieces, without looking at what is laid until all is.
func allLays(z api.Puzzle) [][]api.Lay {
	var found [][]api.Lay
	var lay func(l []api.Lay)
	lay = func(l []api.Lay) {
		if len(l) == len(z.Pieces) {
			if isSolution(z, l) {
				found = append(found, slices.Clone(l))
			}
			return
		}
		for piece := range z.Pieces {
			if slices.ContainsFunc(l, func(x api.Lay) bool { return x.Piece == piece }) {
				continue
			}
			for turn := range 4 {
				lay(append(slices.Clone(l), api.Lay{Piece: piece, Turn: turn}))
			}
		}
	}
	lay(nil)
	return found
}

// slowJoins goes through all pairs of sides: the joins that fit at least so well.
func slowJoins(z api.Puzzle, least int) []api.Join {
	var l []api.Join
	for a := range z.Pieces {
		for i := range 4 {
			for b := a + 1; b < len(z.Pieces); b++ {
				for j := range 4 {
					if n, _ := fit.Fit(z.Play, z.Pieces[b].Edges[j], z.Pieces[a].Edges[i]); n >= least {
						l = append(l, api.Join{A: a, I: i, B: b, J: j})
					}
				}
			}
		}
	}
	return l
}

// joinsOf returns the joins that are in a solution.
func joinsOf(z api.Puzzle, l []api.Lay) map[api.Join]bool {
	found := map[api.Join]bool{}
	add := func(cell, side, other int) {
		a, b := l[cell], l[other]
		i, j := (side+4-a.Turn)%4, (side+6-b.Turn)%4
		if a.Piece > b.Piece {
			a, b, i, j = b, a, j, i
		}
		found[api.Join{A: a.Piece, I: i, B: b.Piece, J: j}] = true
	}
	for cell := range l {
		if cell%z.Wide > 0 {
			add(cell, 3, cell-1)
		}
		if cell >= z.Wide {
			add(cell, 0, cell-z.Wide)
		}
	}
	return found
}

// slowFalse returns all joins that are in none of all solutions.
func slowFalse(z api.Puzzle, all [][]api.Lay) []api.Join {
	in := map[api.Join]bool{}
	for _, l := range all {
		for j := range joinsOf(z, l) {
			in[j] = true
		}
	}
	return slices.DeleteFunc(slowJoins(z, api.FitPerhaps), func(j api.Join) bool { return in[j] })
}

// slowStuck looks for each number of puts whether some of all solutions has them.
func slowStuck(all [][]api.Lay, l []api.Put) int {
	for i := range l {
		some := slices.ContainsFunc(all, func(x []api.Lay) bool {
			return !slices.ContainsFunc(l[:i+1], func(p api.Put) bool { return x[p.Cell] != p.Lay })
		})
		if !some {
			return i
		}
	}
	return len(l)
}

// slowTwins looks whether what is laid otherwise is one of all solutions.
func slowTwins(z api.Puzzle, all [][]api.Lay) [][2]int {
	var found [][2]int
	in := map[string]bool{}
	key := func(l []api.Lay) string {
		var b []byte
		for _, x := range l {
			b = append(b, byte(x.Piece), byte(x.Turn))
		}
		return string(b)
	}
	for _, l := range all {
		in[key(l)] = true
	}
	for a := range z.Pieces {
		for b := a + 1; b < len(z.Pieces); b++ {
			can := slices.ContainsFunc(all, func(l []api.Lay) bool {
				l = slices.Clone(l)
				for i := range l {
					switch l[i].Piece {
					case a:
						l[i].Piece = b
					case b:
						l[i].Piece = a
					}
				}
				return in[key(l)]
			})
			if can {
				found = append(found, [2]int{a, b})
			}
		}
	}
	return found
}

// cellsOf returns the set of the cells in which a piece lies in some of all solutions.
func cellsOf(all [][]api.Lay, piece int) int {
	cells := 0
	for _, l := range all {
		for cell, x := range l {
			if x.Piece == piece {
				cells |= 1 << cell
			}
		}
	}
	return cells
}
