package anew_test

import (
	"math"
	"slices"
	"strconv"
	"strings"

	"jigworks/anew"
	"jigworks/api"
	"jigworks/fit"
)

func span(lo, hi int) api.Span { return api.Span{Lo: lo, Hi: hi} }

func broad(kind, lo, hi, deep int) api.Edge {
	return api.Edge{Kind: kind, At: span(1000, 1000), Wide: span(lo, hi), Deep: span(deep, deep)}
}

func tab(lo, hi int) api.Edge  { return broad(api.EdgeTab, lo, hi, 400) }
func hole(lo, hi int) api.Edge { return broad(api.EdgeHole, lo, hi, 410) }

func play() api.Play {
	return api.Play{Length: 2000, Slack: 20, Loose: 30, Damp: span(0, 10)}
}

// edge returns the side that a letter stands for: `-` is flat, a small letter is a tab, a great one a hole. `a` goes into `A`, `b` into `B`, and `d` into `G`; `c` goes into `A` and into `G`, and `a` into `E`. `p` goes into `A` perhaps, `a` into `P`; `w` goes into `A` and `B` perhaps, `a` and `b` into `W`.
func edge(letter byte) api.Edge {
	switch letter {
	case 'a':
		return tab(500, 500)
	case 'b':
		return tab(560, 560)
	case 'c':
		return tab(510, 510)
	case 'd':
		return tab(520, 520)
	case 'p':
		return tab(480, 490)
	case 'w':
		return tab(490, 570)
	case 'A':
		return hole(515, 515)
	case 'B':
		return hole(575, 575)
	case 'E':
		return hole(505, 520)
	case 'G':
		return hole(535, 535)
	case 'P':
		return hole(515, 531)
	case 'W':
		return hole(505, 590)
	}
	return api.Edge{}
}

const letters = "abcdpwABEGPW"

// piece returns the piece that a word stands for: its sides above, to the right, below, to the left.
func piece(word string) api.Piece {
	return api.Piece{Edges: edges(word)}
}

func edges(word string) [4]api.Edge {
	var l [4]api.Edge
	for s := range l {
		l[s] = edge(word[s])
	}
	return l
}

func pieces(words string) []api.Piece {
	var l []api.Piece
	for _, w := range strings.Fields(words) {
		l = append(l, piece(w))
	}
	return l
}

func puzzle(wide, high int, words string) api.Puzzle {
	return api.Puzzle{Play: play(), Wide: wide, High: high, Pieces: pieces(words)}
}

// repair returns a puzzle that is laid by the numbers of its pieces, with a lost one.
func repair(wide, high, lost int, words string) api.Repair {
	r := api.Repair{Puzzle: puzzle(wide, high, words), Lost: lost}
	for n := range r.Puzzle.Pieces {
		r.Laid = append(r.Laid, api.Lay{Piece: n})
	}
	return r
}

// turning returns a repair of a puzzle whose pieces can be turned, laid as a text says: `piece.turn`, or `piece`.
func turning(r api.Repair, laid string) api.Repair {
	r.Puzzle.Turn = true
	return laidAs(r, laid)
}

func laidAs(r api.Repair, laid string) api.Repair {
	r.Laid = nil
	for _, w := range strings.Fields(laid) {
		p, t := pair(w)
		r.Laid = append(r.Laid, api.Lay{Piece: p, Turn: t})
	}
	return r
}

// strip is the puzzle of the chapter's examples; square and block have two and three rows; alike has two pieces that are the same.
func strip(lost int) api.Repair  { return repair(4, 1, lost, "-a-- -a-A -b-A ---B") }
func alike(lost int) api.Repair  { return repair(4, 1, lost, "-a-- -a-A -a-A ---A") }
func square(lost int) api.Repair { return repair(2, 2, lost, "-ab- --aA Ba-- A--A") }
func block(lost int) api.Repair {
	return repair(3, 3, lost, "-ab- -abA --bA Bab- BabA B-bA Ba-- Ba-A B--A")
}
func one() api.Repair { return repair(1, 1, 0, "----") }

// spread is a strip whose piece 1, if its right side is wide, could lie beside the piece 3.
func spread() api.Repair { return repair(4, 1, 1, "-a-- -a-A -d-A ---G") }

// star is a row of three: the middle one has a tab on both sides, and fits turned by two quarters, too.
func star(lost int) api.Repair { return repair(3, 1, lost, "-A-- -a-a ---A") }

// pair returns the two numbers of `n.m`; the second one can lack, and is 0 then.
func pair(word string) (int, int) {
	a, b, _ := strings.Cut(word, ".")
	n, _ := strconv.Atoi(a)
	m, _ := strconv.Atoi(b)
	return n, m
}

// seats returns seats that are written as `cell.turn`.
func seats(words string) []api.Seat {
	var l []api.Seat
	for _, w := range strings.Fields(words) {
		cell, turn := pair(w)
		l = append(l, api.Seat{Cell: cell, Turn: turn})
	}
	return l
}

// forms returns forms that are written as the letter of their side, and their cost.
func forms(words string) []api.Form {
	var l []api.Form
	for _, w := range strings.Fields(words) {
		cost, _ := strconv.Atoi(w[1:])
		l = append(l, api.Form{Edge: edge(w[0]), Cost: cost})
	}
	return l
}

// next returns the cell to which a side of a cell looks, or -1.
func next(z api.Puzzle, cell, side int) int {
	x := cell%z.Wide + []int{0, 1, 0, -1}[side]
	y := cell/z.Wide + []int{-1, 0, 1, 0}[side]
	if x < 0 || y < 0 || x == z.Wide || y == z.High {
		return -1
	}
	return x + z.Wide*y
}

// turned returns a piece after some quarters to the right.
func turned(p api.Piece, quarters int) api.Piece {
	for range quarters {
		e := p.Edges
		p.Edges = [4]api.Edge{e[3], e[0], e[1], e[2]}
	}
	return p
}

// place returns the cell of the lost piece.
func place(r api.Repair) int {
	return slices.IndexFunc(r.Laid, func(l api.Lay) bool { return l.Piece == r.Lost })
}

// lying returns the piece of a cell, as it lies.
func lying(r api.Repair, cell int) api.Piece {
	return turned(r.Puzzle.Pieces[r.Laid[cell].Piece], r.Laid[cell].Turn)
}

// slowAround returns the sides around the place.
func slowAround(r api.Repair) [4]api.Edge {
	var l [4]api.Edge
	for side := range l {
		if other := next(r.Puzzle, place(r), side); other >= 0 {
			l[side] = lying(r, other).Edges[(side+2)%4]
		}
	}
	return l
}

// slowFits returns whether a piece fits, as it lies, into a cell, where anything can be in the place.
func slowFits(r api.Repair, p api.Piece, cell int) int {
	many := map[int]int{}
	for side, own := range p.Edges {
		other := next(r.Puzzle, cell, side)
		switch {
		case other < 0 && own.Kind == api.EdgeFlat || other == place(r):
			many[api.FitAlways]++
		case other < 0:
			many[api.FitNever]++
		default:
			n, _ := fit.Fit(r.Puzzle.Play, lying(r, other).Edges[(side+2)%4], own)
			many[n]++
		}
	}
	switch {
	case many[api.FitNever] > 0:
		return api.FitNever
	case many[api.FitAlways] == 4:
		return api.FitAlways
	}
	return api.FitPerhaps
}

// slowElsewhere returns where else a made piece could lie.
func slowElsewhere(r api.Repair, p api.Piece) []api.Seat {
	var l []api.Seat
	for cell := range r.Laid {
		for turn := range 4 {
			if cell != place(r) && (turn == 0 || r.Puzzle.Turn) && slowFits(r, turned(p, turn), cell) > 0 {
				l = append(l, api.Seat{Cell: cell, Turn: turn})
			}
		}
	}
	return l
}

// madeOf returns the piece that has forms for its sides, and flat ones for NoForm.
func madeOf(l []api.Form, with [4]int) api.Piece {
	var p api.Piece
	for side, form := range with {
		if form >= 0 {
			p.Edges[side] = l[form].Edge
		}
	}
	return p
}

// choices yields all lists of four forms, or of no form, in lexicographic order.
func choices(many int, yield func(with [4]int)) {
	all := many + 1
	for n := range all * all * all * all {
		yield([4]int{n/all/all/all - 1, n/all/all%all - 1, n/all%all - 1, n%all - 1})
	}
}

// slowChoose goes through all choices; the cost is -1 if there is none that does.
func slowChoose(r api.Repair, l []api.Form) (best [4]int, cost int) {
	cost = -1
	choices(len(l), func(with [4]int) {
		c := 0
		for side, form := range with {
			if form < 0 != (next(r.Puzzle, place(r), side) < 0) {
				return
			}
			if form >= 0 {
				c += l[form].Cost
			}
		}
		made := madeOf(l, with)
		if (cost < 0 || c < cost) && slowFits(r, made, place(r)) == api.FitAlways && len(slowElsewhere(r, made)) == 0 {
			best, cost = with, c
		}
	})
	return best, cost
}

// slowAgain goes through all orders of the pieces, and all their turns; it is for few pieces.
func slowAgain(r api.Repair, made api.Piece) int {
	n := len(r.Laid)
	all := slices.Clone(r.Puzzle.Pieces)
	all[r.Lost] = turned(made, 4-r.Laid[place(r)].Turn)
	many := 0
	laid := make([]api.Piece, n)
	right := func() bool {
		for cell, p := range laid {
			for side, own := range p.Edges {
				other := next(r.Puzzle, cell, side)
				if other < 0 && own.Kind != api.EdgeFlat {
					return false
				}
				if other < 0 {
					continue
				}
				if fits, _ := fit.Fit(r.Puzzle.Play, own, laid[other].Edges[(side+2)%4]); fits == 0 {
					return false
				}
			}
		}
		return true
	}
	var lay func(piece int, taken int)
	lay = func(piece int, taken int) {
		if piece == n {
			if right() {
				many++
			}
			return
		}
		for cell := range n {
			for turn := range 4 {
				if taken>>cell&1 == 0 && (turn == 0 || r.Puzzle.Turn && piece > 0) {
					laid[cell] = turned(all[piece], turn)
					lay(piece+1, taken|1<<cell)
				}
			}
		}
	}
	lay(0, 0)
	return min(many, 100)
}

// slowShape goes through all numbers, with another side whose other numbers fit surely.
func slowShape(p api.Play, other api.Edge) (api.Edge, bool) {
	made := api.Edge{Kind: 3 - other.Kind}
	run := func(lo, hi int, with func(n int) (a, b api.Edge)) api.Span {
		found := span(0, -1)
		for n := lo; n <= hi; n++ {
			a, b := with(n)
			if fits, _ := fit.Fit(p, a, b); fits == api.FitAlways {
				if found.Hi < 0 {
					found.Lo = n
				}
				found.Hi = n
			}
		}
		return found
	}
	even := span(1, 1)
	made.At = run(0, 10000, func(n int) (a, b api.Edge) {
		return api.Edge{Kind: made.Kind, At: span(n, n), Wide: even, Deep: even}, api.Edge{Kind: other.Kind, At: other.At, Wide: even, Deep: even}
	})
	// What lies at 0 and at Length is not off.
	zero, far := span(0, 0), span(p.Length, p.Length)
	made.Wide = run(1, 3000, func(n int) (a, b api.Edge) {
		return api.Edge{Kind: made.Kind, At: zero, Wide: span(n, n), Deep: even}, api.Edge{Kind: other.Kind, At: far, Wide: other.Wide, Deep: even}
	})
	made.Deep = run(1, 3000, func(n int) (a, b api.Edge) {
		return api.Edge{Kind: made.Kind, At: zero, Wide: even, Deep: span(n, n)}, api.Edge{Kind: other.Kind, At: far, Wide: even, Deep: other.Deep}
	})
	return made, min(made.At.Hi, made.Wide.Hi, made.Deep.Hi) >= 0
}

// answers is all that is said of a repair with a made piece and forms.
type answers struct {
	around  [4]api.Edge
	fits    int
	besides []api.Seat
	with    [4]int
	cost    int
	again   int
}

func (a answers) equal(b answers) bool {
	return a.around == b.around && a.fits == b.fits && slices.Equal(a.besides, b.besides) && a.with == b.with && a.cost == b.cost && a.again == b.again
}

// ask returns all that is said, and the errors of Around, Fits, Elsewhere, Choose and Again.
func ask(r api.Repair, p api.Piece, l []api.Form) (a answers, e [5]api.Errno) {
	a.around, e[0] = anew.Around(r)
	a.fits, e[1] = anew.Fits(r, p)
	a.besides, e[2] = anew.Elsewhere(r, p)
	a.with, a.cost, e[3] = anew.Choose(r, l)
	a.again, e[4] = anew.Again(r, p)
	return a, e
}

// ofEach returns an error once for each function.
func ofEach(e api.Errno) [5]api.Errno { return [5]api.Errno{e, e, e, e, e} }

func copyRepair(r api.Repair) api.Repair {
	r.Puzzle.Pieces = slices.Clone(r.Puzzle.Pieces)
	r.Laid = slices.Clone(r.Laid)
	return r
}

func sameRepair(a, b api.Repair) bool {
	x, y := a.Puzzle, b.Puzzle
	return x.Play == y.Play && x.Wide == y.Wide && x.High == y.High && x.Turn == y.Turn && slices.Equal(x.Pieces, y.Pieces) && slices.Equal(a.Laid, b.Laid) && a.Lost == b.Lost
}

// badEdges returns sides that are not valid.
func badEdges() []api.Edge {
	good := edge('a')
	return []api.Edge{
		{Kind: -1}, {Kind: 3}, {Kind: math.MinInt}, {Kind: math.MaxInt}, {Kind: 1}, {Kind: 2},
		{Kind: 1, At: span(-1, 5), Wide: good.Wide, Deep: good.Deep}, {Kind: 2, At: span(2, 1), Wide: good.Wide, Deep: good.Deep}, {Kind: 1, At: span(0, 10001), Wide: good.Wide, Deep: good.Deep},
		{Kind: 2, At: good.At, Wide: span(0, 1), Deep: good.Deep}, {Kind: 1, At: good.At, Wide: span(5, 4), Deep: good.Deep}, {Kind: 2, At: good.At, Wide: span(5, 3001), Deep: good.Deep},
		{Kind: 1, At: good.At, Wide: good.Wide, Deep: span(0, 1)}, {Kind: 2, At: good.At, Wide: good.Wide, Deep: span(2, 1)}, {Kind: 1, At: good.At, Wide: good.Wide, Deep: span(5, 3001)},
	}
}

// oddFlats returns flat sides with other numbers, which are not looked at.
func oddFlats() []api.Edge {
	l := []api.Edge{{At: span(9, -9)}, {Wide: span(math.MaxInt, math.MinInt)}, {Deep: span(-1, 99999)}, edge('a')}
	l[3].Kind = api.EdgeFlat
	return l
}

func badPlays() []api.Play {
	return []api.Play{
		{}, {Length: -1}, {Length: 10001}, {Length: 1, Slack: -1}, {Length: 1, Slack: 501}, {Length: 1, Loose: -1},
		{Length: 1, Loose: 501}, {Length: 1, Damp: span(-1, 0)}, {Length: 1, Damp: span(1, 0)}, {Length: 1, Damp: span(0, 101)},
	}
}

// badPieces returns pieces of which one side is not valid.
func badPieces() []api.Piece {
	var l []api.Piece
	for _, e := range badEdges() {
		for side := range 4 {
			p := piece("-a-A")
			p.Edges[side] = e
			l = append(l, p)
		}
	}
	return l
}

// badRepairs returns repairs that are not valid.
func badRepairs() []api.Repair {
	var l []api.Repair
	change := func(f func(r *api.Repair)) {
		for _, r := range []api.Repair{strip(1), square(0), block(4), one()} {
			f(&r)
			l = append(l, r)
		}
	}
	for _, n := range []int{0, -1, 5, 6, 10, math.MinInt, math.MaxInt} {
		change(func(r *api.Repair) { r.Puzzle.Wide = n })
		change(func(r *api.Repair) { r.Puzzle.High = n })
	}
	change(func(r *api.Repair) { r.Puzzle.Wide, r.Puzzle.High = -r.Puzzle.Wide, -r.Puzzle.High })
	change(func(r *api.Repair) { r.Puzzle.Pieces = nil })
	change(func(r *api.Repair) { *r = api.Repair{Puzzle: api.Puzzle{Play: play()}} })
	change(func(r *api.Repair) { r.Puzzle.Pieces = r.Puzzle.Pieces[1:] })
	change(func(r *api.Repair) { r.Puzzle.Pieces = append(r.Puzzle.Pieces, r.Puzzle.Pieces[0]) })
	// Four and five times these are 4, as they wrap around.
	change(func(r *api.Repair) {
		r.Puzzle.Wide, r.Puzzle.High, r.Puzzle.Pieces = 5, 3689348814741910324, strip(0).Puzzle.Pieces
	})
	change(func(r *api.Repair) {
		r.Puzzle.Wide, r.Puzzle.High, r.Puzzle.Pieces = 4, 1<<62+1, strip(0).Puzzle.Pieces
	})
	change(func(r *api.Repair) { *r = repair(10, 1, 0, strings.Repeat("---- ", 10)) })
	for _, n := range []int{-1, 9, 10, math.MinInt, math.MaxInt} {
		change(func(r *api.Repair) { r.Lost = n })
	}
	change(func(r *api.Repair) { r.Lost = len(r.Laid) })
	for _, p := range badPlays() {
		change(func(r *api.Repair) { r.Puzzle.Play = p })
	}
	for _, p := range badPieces() {
		change(func(r *api.Repair) { r.Puzzle.Pieces[0] = p })
		change(func(r *api.Repair) { r.Puzzle.Pieces[len(r.Laid)-1] = p })
		change(func(r *api.Repair) { r.Puzzle.Pieces[r.Lost] = p })
	}
	return l
}

// notLaid returns repairs that are valid, but not laid.
func notLaid() []api.Repair {
	var l []api.Repair
	change := func(laid string) {
		l = append(l, laidAs(strip(1), laid), turning(strip(1), laid))
	}
	// Too short, too long, a piece twice, one that is none.
	for _, laid := range []string{"", "0", "0 1 2", "0 1 2 3 3", "0 1 2 3 0", "0 1 2 2", "0 0 2 3", "0 1 1 3", "1 1 1 1", "0 1 2 4", "-1 1 2 3", "0 1 2 9223372036854775807", "0 1 2 -9223372036854775808"} {
		change(laid)
	}
	// Turns that a piece cannot have, also the lost one.
	for _, laid := range []string{"0.1 1 2 3", "0.2 1 2 3", "0.3 1 2 3", "0.4 1 2 3", "0.-1 1 2 3", "0 1.4 2 3", "0 1.-1 2 3", "0 1.5 2 3", "0 1 2.4 3", "0 1 2 3.-1", "0 1 2 3.9223372036854775807", "0 1 2 3.-9223372036854775808"} {
		change(laid)
	}
	for _, laid := range []string{"0 1.1 2 3", "0 1.2 2 3", "0 1.3 2 3", "0 1 2 3.1", "0 1 2 3.2", "0 1 2.3 3"} {
		l = append(l, laidAs(strip(1), laid))
	}
	for _, laid := range []string{"0.1 1 2 3", "0.2 1 2 3", "0.3 1 2 3"} {
		l = append(l, turning(strip(0), laid), turning(block(0), laid+" 4 5 6 7 8"))
	}
	// Others that lie wrong, or are turned.
	for _, laid := range []string{"0 1 3 2", "3 1 2 0", "2 1 0 3", "3 2 1 0"} {
		change(laid)
	}
	for _, laid := range []string{"0 1 2.1 3", "0 1 2.2 3", "0 1 2 3.1", "0 1 2 3.2", "0 1 2 3.3"} {
		l = append(l, turning(strip(1), laid))
	}
	// A side on the rim that is not flat, two sides that never fit, and a flat one inside.
	for _, words := range []string{"aa-- -a-A -b-A ---B", "-aA- -a-A -b-A ---B", "-a-A -a-A -b-A ---B", "-a-- -a-A bb-A ---B", "-a-- -a-A -bAA ---B", "-a-- -a-A -b-A -b-B", "-a-- -a-A -b-A b--B", "-a-- -a-A -b-A --AB", "-a-- -a-A -a-A ---B", "-a-- -a-A -b-A ---A", "-a-- -a-A -B-A ---B", "-a-- -a-A -b-A ---b", "-a-- -a-A ---A ---B", "-a-- -a-A -b-A ----", "-a-- -a-A ---A ----"} {
		l = append(l, repair(4, 1, 1, words))
	}
	return l
}
