package scan_test

import (
	"cmp"
	"math"
	"slices"
	"strconv"
	"strings"

	"jigworks/api"
	"jigworks/fit"
	"jigworks/scan"
)

func span(lo, hi int) api.Span { return api.Span{Lo: lo, Hi: hi} }

func exact(kind, wide, deep int) api.Edge {
	return api.Edge{Kind: kind, At: span(1000, 1000), Wide: span(wide, wide), Deep: span(deep, deep)}
}

// seen is a side of a scan.
func seen(kind, lo, hi int) api.Edge {
	return api.Edge{Kind: kind, At: span(990, 1010), Wide: span(lo, hi), Deep: span(395, 415)}
}

func play() api.Play {
	return api.Play{Length: 2000, Slack: 20, Loose: 30, Damp: span(0, 10)}
}

// edge returns the side that a letter stands for: `-` is flat, a small letter is a tab, a great one a hole. `a`, `A`, `b` and `B` are those of the chapter's drawing; `p` goes into `A` perhaps. `t`, `T`, `u` and `U` are scans of `a`, `A`, `b` and `B`, `s` is a narrower one of `a`; `w` can be `a` or `b`, and `W` can be `A` or `B`.
func edge(letter byte) api.Edge {
	switch letter {
	case 'a':
		return exact(api.EdgeTab, 500, 400)
	case 'A':
		return exact(api.EdgeHole, 515, 410)
	case 'b':
		return exact(api.EdgeTab, 560, 400)
	case 'B':
		return exact(api.EdgeHole, 575, 410)
	case 'p':
		e := exact(api.EdgeTab, 500, 400)
		e.Wide = span(480, 490)
		return e
	case 's':
		return seen(api.EdgeTab, 495, 505)
	case 't':
		return seen(api.EdgeTab, 490, 510)
	case 'T':
		return seen(api.EdgeHole, 505, 525)
	case 'u':
		return seen(api.EdgeTab, 550, 570)
	case 'U':
		return seen(api.EdgeHole, 565, 585)
	case 'w':
		return seen(api.EdgeTab, 490, 570)
	case 'W':
		return seen(api.EdgeHole, 505, 585)
	}
	return api.Edge{}
}

// piece returns the piece that a word stands for: its sides above, to the right, below, to the left.
func piece(word string) api.Piece {
	var p api.Piece
	for s := range p.Edges {
		p.Edges[s] = edge(word[s])
	}
	return p
}

func pieces(words string) []api.Piece {
	var l []api.Piece
	for _, w := range strings.Fields(words) {
		l = append(l, piece(w))
	}
	return l
}

func drawing(wide, high int, words string) api.Puzzle {
	return api.Puzzle{Play: play(), Wide: wide, High: high, Pieces: pieces(words)}
}

// strip is the drawing of the chapter's examples; square and block are right ones of two and three rows.
func strip() api.Puzzle  { return drawing(4, 1, "-a-- -a-A -b-A ---B") }
func square() api.Puzzle { return drawing(2, 2, "-ab- --aA Ba-- A--A") }
func block() api.Puzzle {
	return drawing(3, 3, "-ab- -abA --bA Bab- BabA B-bA Ba-- Ba-A B--A")
}

// blanks is a drawing whose pieces are all flat: each scan that is flat can be at each cell, turned in each way.
func blanks(wide, high int) api.Puzzle {
	return drawing(wide, high, strings.Repeat("---- ", wide*high))
}

// pile returns a pile whose joins are written as `A.I-B.J`.
func pile(d api.Puzzle, scans, hang string, lost, foreign int) api.Pile {
	p := api.Pile{Drawing: d, Scans: pieces(scans), Lost: lost, Foreign: foreign}
	for _, w := range strings.Fields(hang) {
		a, b, _ := strings.Cut(w, "-")
		j := api.Join{}
		j.A, j.I = pair(a)
		j.B, j.J = pair(b)
		p.Hang = append(p.Hang, j)
	}
	return p
}

// pair returns the two numbers of `n.m`.
func pair(word string) (int, int) {
	a, b, _ := strings.Cut(word, ".")
	n, _ := strconv.Atoi(a)
	m, _ := strconv.Atoi(b)
	return n, m
}

// seats returns seats that are written as `cell.turn`; `x` is an alien, and `?` a scan whose cell is not told.
func seats(words string) []api.Seat {
	var l []api.Seat
	for _, w := range strings.Fields(words) {
		switch w {
		case "x":
			l = append(l, api.Seat{Cell: -2})
		case "?":
			l = append(l, api.Seat{Cell: -1})
		default:
			cell, turn := pair(w)
			l = append(l, api.Seat{Cell: cell, Turn: turn})
		}
	}
	return l
}

// truths returns lists of seats, with a bar between them.
func truths(text string) [][]api.Seat {
	var l [][]api.Seat
	for _, words := range strings.Split(text, "|") {
		l = append(l, seats(words))
	}
	return l
}

// answers is all that is said of a pile.
type answers struct {
	cells         []int
	alien         int
	told          []api.Seat
	sure, may     int
	first, second []api.Seat
	many          int
}

func (a answers) equal(b answers) bool {
	return slices.Equal(a.cells, b.cells) && a.alien == b.alien && slices.Equal(a.told, b.told) && a.sure == b.sure && a.may == b.may &&
		slices.Equal(a.first, b.first) && slices.Equal(a.second, b.second) && a.many == b.many
}

// ask returns all that is said of a pile, and the errors of Places, Told, Missing and Truths.
func ask(p api.Pile) (a answers, e [4]api.Errno) {
	a.cells, a.alien, e[0] = scan.Places(p)
	a.told, e[1] = scan.Told(p)
	a.sure, a.may, e[2] = scan.Missing(p)
	a.first, a.second, a.many, e[3] = scan.Truths(p)
	return a, e
}

// ofEach returns an error once for each function.
func ofEach(e api.Errno) [4]api.Errno { return [4]api.Errno{e, e, e, e} }

// expected returns all that must be said of a pile, and the error, if these are all its truths in their order.
func expected(p api.Pile, all [][]api.Seat) (answers, api.Errno) {
	if len(all) == 0 {
		return answers{}, api.ErrState
	}
	a := answers{first: all[0], many: min(len(all), 100), sure: 1<<len(p.Drawing.Pieces) - 1}
	if len(all) > 1 {
		a.second = all[1]
	}
	for _, l := range all {
		lack := 1<<len(p.Drawing.Pieces) - 1
		for _, s := range l {
			if s.Cell >= 0 {
				lack &^= 1 << s.Cell
			}
		}
		a.sure &= lack
		a.may |= lack
	}
	for i := range p.Scans {
		cells, told := 0, all[0][i]
		for _, l := range all {
			s := l[i]
			if s.Cell == -2 {
				a.alien |= 1 << i
			} else {
				cells |= 1 << s.Cell
			}
			if s.Cell != told.Cell {
				told = api.Seat{Cell: -1}
			}
			if s.Turn != told.Turn {
				told.Turn = 0
			}
		}
		a.cells = append(a.cells, cells)
		a.told = append(a.told, told)
	}
	return a, api.OK
}

// next returns the cell to which a side of a cell looks, or -1.
func next(d api.Puzzle, cell, side int) int {
	x := cell%d.Wide + []int{0, 1, 0, -1}[side]
	y := cell/d.Wide + []int{-1, 0, 1, 0}[side]
	if x < 0 || y < 0 || x == d.Wide || y == d.High {
		return -1
	}
	return x + d.Wide*y
}

// turned returns a piece after some quarters to the right.
func turned(p api.Piece, quarters int) api.Piece {
	for range quarters {
		e := p.Edges
		p.Edges = [4]api.Edge{e[3], e[0], e[1], e[2]}
	}
	return p
}

// alike returns whether two sides can be the same one: whether some number is in both spans.
func alike(a, b api.Edge) bool {
	both := func(x, y api.Span) bool { return max(x.Lo, y.Lo) <= min(x.Hi, y.Hi) }
	return a.Kind == b.Kind && (a.Kind == 0 || both(a.At, b.At) && both(a.Wide, b.Wide) && both(a.Deep, b.Deep))
}

// slowSeats turns a scan, and looks at which cells it lies as it is drawn.
func slowSeats(d api.Puzzle, p api.Piece) []api.Seat {
	var l []api.Seat
	for cell := range d.Pieces {
		for turn := range 4 {
			lies := turned(p, turn)
			if !slices.ContainsFunc([]int{0, 1, 2, 3}, func(s int) bool { return !alike(lies.Edges[s], d.Pieces[cell].Edges[s]) }) {
				l = append(l, api.Seat{Cell: cell, Turn: turn})
			}
		}
	}
	return l
}

// hangs returns whether a join is as it must be, if its scans have these seats.
func hangs(d api.Puzzle, j api.Join, a, b api.Seat) bool {
	if a.Cell == -2 || b.Cell == -2 {
		return a == b
	}
	for side := range 4 {
		if next(d, a.Cell, side) == b.Cell && (side-a.Turn+4)%4 == j.I && (side+2-b.Turn+4)%4 == j.J {
			return true
		}
	}
	return false
}

// isTruth returns whether a list of seats is a truth.
func isTruth(p api.Pile, l []api.Seat) bool {
	aliens, cells := 0, map[int]bool{}
	for i, s := range l {
		if s == (api.Seat{Cell: -2}) {
			aliens++
			continue
		}
		if cells[s.Cell] || !slices.Contains(slowSeats(p.Drawing, p.Scans[i]), s) {
			return false
		}
		cells[s.Cell] = true
	}
	for _, j := range p.Hang {
		if !hangs(p.Drawing, j, l[j.A], l[j.B]) {
			return false
		}
	}
	return len(l) == len(p.Scans) && aliens <= p.Foreign && len(p.Drawing.Pieces)-len(cells) <= p.Lost
}

// slowTruths seats scans from the last one to the first one, at their last seats first, and puts what it finds in order. It gives up with more truths than most.
func slowTruths(p api.Pile, most int) (found [][]api.Seat, ok bool) {
	can := make([][]api.Seat, len(p.Scans))
	for i, x := range p.Scans {
		can[i] = append(slowSeats(p.Drawing, x), api.Seat{Cell: -2})
		slices.Reverse(can[i])
	}
	l := make([]api.Seat, len(p.Scans))
	taken := map[int]bool{}
	var seat func(i, aliens int) bool
	seat = func(i, aliens int) bool {
		if aliens > p.Foreign {
			return true
		}
		if i < 0 {
			if len(p.Drawing.Pieces)-len(taken) <= p.Lost {
				found = append(found, slices.Clone(l))
			}
			return len(found) <= most
		}
		for _, s := range can[i] {
			l[i] = s
			hung := !slices.ContainsFunc(p.Hang, func(j api.Join) bool { return min(j.A, j.B) == i && !hangs(p.Drawing, j, l[j.A], l[j.B]) })
			if taken[s.Cell] || !hung {
				continue
			}
			var on bool
			if s.Cell == -2 {
				on = seat(i-1, aliens+1)
			} else {
				taken[s.Cell] = true
				on = seat(i-1, aliens)
				delete(taken, s.Cell)
			}
			if !on {
				return false
			}
		}
		return true
	}
	ok = seat(len(l)-1, 0)
	slices.SortFunc(found, compareSeats)
	return found, ok
}

func compareSeats(a, b []api.Seat) int {
	return slices.CompareFunc(a, b, func(x, y api.Seat) int {
		return cmp.Or(cmp.Compare(x.Cell, y.Cell), cmp.Compare(x.Turn, y.Turn))
	})
}

// allTruths goes through all lists of seats, and looks only at whole ones.
func allTruths(p api.Pile) [][]api.Seat {
	var found [][]api.Seat
	var list func(l []api.Seat)
	list = func(l []api.Seat) {
		if len(l) == len(p.Scans) {
			if isTruth(p, l) {
				found = append(found, slices.Clone(l))
			}
			return
		}
		list(append(slices.Clone(l), api.Seat{Cell: -2}))
		for cell := range p.Drawing.Pieces {
			for turn := range 4 {
				list(append(slices.Clone(l), api.Seat{Cell: cell, Turn: turn}))
			}
		}
	}
	list(nil)
	return found
}

// neverFits returns whether the sides of some join never fit.
func neverFits(p api.Pile) bool {
	return slices.ContainsFunc(p.Hang, func(j api.Join) bool {
		n, _ := fit.Fit(p.Drawing.Play, p.Scans[j.A].Edges[j.I], p.Scans[j.B].Edges[j.J])
		return n == api.FitNever
	})
}

func copyDrawing(d api.Puzzle) api.Puzzle {
	d.Pieces = slices.Clone(d.Pieces)
	return d
}

func copyPile(p api.Pile) api.Pile {
	p.Drawing = copyDrawing(p.Drawing)
	p.Scans = slices.Clone(p.Scans)
	p.Hang = slices.Clone(p.Hang)
	return p
}

func sameDrawing(a, b api.Puzzle) bool {
	return a.Play == b.Play && a.Wide == b.Wide && a.High == b.High && a.Turn == b.Turn && slices.Equal(a.Pieces, b.Pieces)
}

func samePile(a, b api.Pile) bool {
	return sameDrawing(a.Drawing, b.Drawing) && slices.Equal(a.Scans, b.Scans) && slices.Equal(a.Hang, b.Hang) && a.Lost == b.Lost && a.Foreign == b.Foreign
}

// badEdges returns sides that are not valid.
func badEdges() []api.Edge {
	good := edge('a')
	return []api.Edge{
		{Kind: -1}, {Kind: 3}, {Kind: math.MinInt}, {Kind: math.MaxInt}, {Kind: 1}, {Kind: 2},
		{Kind: 1, At: span(-1, 5), Wide: good.Wide, Deep: good.Deep}, {Kind: 2, At: span(2, 1), Wide: good.Wide, Deep: good.Deep}, {Kind: 1, At: span(0, 10001), Wide: good.Wide, Deep: good.Deep},
		{Kind: 2, At: good.At, Wide: span(0, 1), Deep: good.Deep}, {Kind: 1, At: good.At, Wide: span(5, 4), Deep: good.Deep}, {Kind: 2, At: good.At, Wide: span(5, 3001), Deep: good.Deep},
		{Kind: 1, At: good.At, Wide: good.Wide, Deep: span(0, 1)}, {Kind: 2, At: good.At, Wide: good.Wide, Deep: span(2, 1)}, {Kind: 1, At: good.At, Wide: good.Wide, Deep: span(5, 3001)},
	}
}

// badPieces returns pieces of which one side is not valid.
func badPieces() []api.Piece {
	var l []api.Piece
	for _, e := range badEdges() {
		for side := range 4 {
			p := piece("-t-T")
			p.Edges[side] = e
			l = append(l, p)
		}
	}
	return l
}

// badDrawings returns drawings that are not valid.
func badDrawings() []api.Puzzle {
	var l []api.Puzzle
	change := func(f func(d *api.Puzzle)) {
		for _, d := range []api.Puzzle{strip(), square(), block(), blanks(1, 1)} {
			f(&d)
			l = append(l, d)
		}
	}
	for _, n := range []int{0, -1, 5, 6, 10, math.MinInt, math.MaxInt} {
		change(func(d *api.Puzzle) { d.Wide = n })
		change(func(d *api.Puzzle) { d.High = n })
	}
	change(func(d *api.Puzzle) { d.Wide, d.High = -d.Wide, -d.High })
	change(func(d *api.Puzzle) { d.Pieces = nil })
	change(func(d *api.Puzzle) { d.Wide, d.High, d.Pieces = 0, 0, nil })
	change(func(d *api.Puzzle) { d.Wide, d.High, d.Pieces = 0, 5, []api.Piece{} })
	change(func(d *api.Puzzle) { d.Pieces = d.Pieces[1:] })
	change(func(d *api.Puzzle) { d.Pieces = append(d.Pieces, d.Pieces[0]) })
	// Five times this is 4, as it wraps around.
	change(func(d *api.Puzzle) { d.Wide, d.High, d.Pieces = 5, 3689348814741910324, strip().Pieces })
	change(func(d *api.Puzzle) { d.Wide, d.High, d.Pieces = 3689348814741910324, 5, strip().Pieces })
	// So is four times this.
	for _, n := range []int{1<<62 + 1, -1<<62 + 1} {
		change(func(d *api.Puzzle) { d.Wide, d.High, d.Pieces = 4, n, strip().Pieces })
		change(func(d *api.Puzzle) { d.Wide, d.High, d.Pieces = n, 4, strip().Pieces })
	}
	change(func(d *api.Puzzle) { d.Wide, d.High, d.Pieces = 10, 1, blanks(10, 1).Pieces })
	change(func(d *api.Puzzle) { d.Wide, d.High, d.Pieces = 4, 3, blanks(4, 3).Pieces })
	for _, p := range []api.Play{
		{}, {Length: -1}, {Length: 10001}, {Length: 1, Slack: -1}, {Length: 1, Slack: 501}, {Length: 1, Loose: -1},
		{Length: 1, Loose: 501}, {Length: 1, Damp: span(-1, 0)}, {Length: 1, Damp: span(1, 0)}, {Length: 1, Damp: span(0, 101)},
	} {
		change(func(d *api.Puzzle) { d.Play = p })
	}
	for _, p := range badPieces() {
		change(func(d *api.Puzzle) { d.Pieces[0] = p })
		change(func(d *api.Puzzle) { d.Pieces[len(d.Pieces)-1] = p })
	}
	return l
}
