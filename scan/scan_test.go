package scan_test

import (
	"math"
	"slices"
	"strings"
	"testing"

	"jigworks/api"
	"jigworks/scan"
)

// The scans of the chapter's examples.
const (
	scanP = "-w-T"
	scanQ = "-s-T"
	scanR = "--t-"
)

// P7.1.
func TestCheck(t *testing.T) {
	loose := strip()
	loose.Pieces[1].Edges[1].Wide = span(500, 516)
	turn := strip()
	turn.Turn = true
	odd := strip()
	odd.Pieces[0].Edges[3] = api.Edge{At: span(9, -9), Wide: span(math.MaxInt, math.MinInt)}
	for i, c := range []struct {
		d          api.Puzzle
		cell, side int
		e          api.Errno
	}{
		{strip(), 0, 0, api.ErrNone}, {drawing(4, 1, "-a-- -a-A -a-A ---B"), 2, 1, api.OK}, {square(), 0, 0, api.ErrNone}, {block(), 0, 0, api.ErrNone}, {turn, 0, 0, api.ErrNone},
		// Of a flat side nothing but its kind is looked at.
		{odd, 0, 0, api.ErrNone},
		// One piece.
		{blanks(1, 1), 0, 0, api.ErrNone}, {drawing(1, 1, "a---"), 0, 0, api.OK}, {drawing(1, 1, "-B--"), 0, 1, api.OK}, {drawing(1, 1, "--a-"), 0, 2, api.OK}, {drawing(1, 1, "---A"), 0, 3, api.OK}, {drawing(1, 1, "--aA"), 0, 2, api.OK},
		// A single row, and a single column.
		{drawing(2, 1, "-a-- ---A"), 0, 0, api.ErrNone}, {drawing(2, 1, "-A-- ---a"), 0, 0, api.ErrNone}, {drawing(1, 3, "--a- A-b- B---"), 0, 0, api.ErrNone}, {drawing(1, 3, "--a- A-b- A---"), 1, 2, api.OK}, {drawing(3, 1, "--a- A-b- B---"), 0, 1, api.OK},
		{drawing(1, 2, "-a-- ---A"), 0, 1, api.OK}, {drawing(2, 1, "--a- A---"), 0, 1, api.OK}, {drawing(1, 4, "-a-- -a-A -b-A ---B"), 0, 1, api.OK},
		// A side on the rim that is not flat.
		{drawing(4, 1, "aa-- -a-A -b-A ---B"), 0, 0, api.OK}, {drawing(4, 1, "-a-- -aaA -b-A ---B"), 1, 2, api.OK}, {drawing(4, 1, "-a-A -a-A -b-A ---B"), 0, 3, api.OK}, {drawing(4, 1, "-a-- -a-A -b-A -b-B"), 3, 1, api.OK},
		{drawing(2, 2, "-ab- -aaA Ba-- A--A"), 1, 1, api.OK}, {drawing(2, 2, "-ab- --aA BaA- A--A"), 2, 2, api.OK}, {drawing(2, 2, "-ab- --aA Ba-- A-bA"), 3, 2, api.OK},
		// A flat side inside, on one side of it or on both.
		{drawing(2, 1, "---- ----"), 0, 1, api.OK}, {drawing(2, 1, "-a-- ----"), 0, 1, api.OK}, {drawing(2, 1, "---- ---A"), 0, 1, api.OK}, {drawing(1, 2, "---- ----"), 0, 2, api.OK},
		// Two tabs, two holes, and sides that fit never, or only perhaps.
		{drawing(2, 1, "-a-- ---a"), 0, 1, api.OK}, {drawing(2, 1, "-A-- ---A"), 0, 1, api.OK}, {drawing(2, 1, "-a-- ---B"), 0, 1, api.OK}, {drawing(2, 1, "-p-- ---A"), 0, 1, api.OK}, {loose, 1, 1, api.OK},
		// The first cell comes first, then its first side.
		{drawing(2, 2, "-aa- --bA Ba-- A--A"), 0, 2, api.OK}, {drawing(2, 2, "-aa- b-aA Ba-- A--A"), 0, 2, api.OK}, {drawing(2, 2, "-bab --aA Ba-- A--A"), 0, 1, api.OK}, {drawing(2, 2, "-ab- --bA Ba-- A-aA"), 1, 2, api.OK}, {drawing(2, 2, "-ab- --aA Bb-- A--A"), 2, 1, api.OK},
		{drawing(3, 3, "-ab- -abA --bA Bab- BabA B-bA Ba-- Ba-B B--A"), 6, 1, api.OK}, {drawing(3, 3, "-ab- -abA --bA Bab- BabA B-bA Ba-- Aa-A B--A"), 4, 2, api.OK}, {drawing(3, 3, "-ab- -abA --bA Bab- Bab- B-bA Ba-- Ba-A B--A"), 3, 1, api.OK},
	} {
		if cell, side, e := scan.Check(c.d); cell != c.cell || side != c.side || e != c.e {
			t.Errorf("%d: Check = %d, %d, error %d", i, cell, side, e)
		}
	}
	for _, d := range badDrawings() {
		if cell, side, e := scan.Check(d); cell != 0 || side != 0 || e != api.ErrArg {
			t.Errorf("%v: Check = %d, %d, error %d", d, cell, side, e)
		}
	}
}

// P7.2.
func TestSeats(t *testing.T) {
	for i, c := range []struct {
		d    api.Puzzle
		scan string
		want string
	}{
		{strip(), scanP, "1.0 2.0"}, {strip(), scanQ, "1.0"}, {strip(), scanR, "0.3"},
		// Turned in each way: what the scan has above lies to the right after one quarter.
		{strip(), "t---", "0.1"}, {strip(), "-t--", "0.0"}, {strip(), "---t", "0.2"}, {strip(), "T-w-", "1.3 2.3"}, {strip(), "wT--", ""}, {square(), "tu--", "0.1"}, {square(), "u--t", "0.2"}, {square(), "--tu", "0.3"}, {square(), "-tu-", "0.0"},
		// None, for another kind, another size, or another side that is flat.
		{strip(), "-U--", "3.2"}, {strip(), "-T--", ""}, {strip(), "-A--", ""}, {strip(), "----", ""}, {strip(), "tttt", ""}, {strip(), "-u-U", ""}, {strip(), "-W-W", ""}, {strip(), "wwwT", ""},
		// Several turns of one cell, and of several.
		{blanks(1, 1), "----", "0.0 0.1 0.2 0.3"}, {drawing(1, 1, "aaaa"), "wtaw", "0.0 0.1 0.2 0.3"}, {drawing(1, 1, "a-a-"), "-t-t", "0.1 0.3"}, {drawing(1, 1, "a-a-"), "t-t-", "0.0 0.2"}, {drawing(1, 1, "abab"), "tuwu", "0.0 0.2"}, {drawing(1, 1, "abab"), "ww-w", ""},
		{drawing(1, 1, "abab"), "wwww", "0.0 0.1 0.2 0.3"}, {drawing(2, 2, "a-a- a--- ---- -a-a"), "-t-t", "0.1 0.3 3.0 3.2"}, {blanks(2, 1), "----", "0.0 0.1 0.2 0.3 1.0 1.1 1.2 1.3"},
		// The drawing has to be valid, not right, and need not be exact.
		{drawing(1, 3, "-a-- -a-A ---A"), "-t-T", "1.0"}, {drawing(1, 1, "wWtT"), "aBaA", "0.0"}, {drawing(1, 1, "wWtT"), "aBbA", ""},
	} {
		if l, e := scan.Seats(c.d, piece(c.scan)); !slices.Equal(l, seats(c.want)) || e != api.OK {
			t.Errorf("%d: Seats of %s = %v, error %d", i, c.scan, l, e)
		}
	}
}

// P7.2: two spans have a number in common just from where the one ends with the other's first number, or its last one.
func TestNumbersInCommon(t *testing.T) {
	for name, part := range map[string]func(e *api.Edge) *api.Span{
		"At":   func(e *api.Edge) *api.Span { return &e.At },
		"Wide": func(e *api.Edge) *api.Span { return &e.Wide },
		"Deep": func(e *api.Edge) *api.Span { return &e.Deep },
	} {
		for _, c := range []struct {
			drawn, seen api.Span
			can         bool
		}{
			{span(100, 100), span(100, 100), true}, {span(100, 100), span(99, 101), true}, {span(99, 101), span(100, 100), true}, {span(90, 100), span(100, 110), true}, {span(90, 100), span(101, 110), false}, {span(90, 100), span(80, 90), true}, {span(90, 100), span(80, 89), false},
			{span(90, 100), span(1, 1000), true}, {span(1, 1000), span(90, 100), true}, {span(1, 1), span(1, 1), true}, {span(1, 1), span(2, 3000), false}, {span(3000, 3000), span(3000, 3000), true}, {span(3000, 3000), span(1, 2999), false},
		} {
			d, s := drawing(1, 1, "a---"), piece("a---")
			*part(&d.Pieces[0].Edges[0]), *part(&s.Edges[0]) = c.drawn, c.seen
			l, e := scan.Seats(d, s)
			if e != api.OK || (len(l) > 0) != c.can {
				t.Errorf("%s %v and %v: Seats = %v, error %d", name, c.drawn, c.seen, l, e)
			}
		}
	}
}

// P7.2: what a flat side has besides its kind is not looked at, in the drawing and in the scan.
func TestFlatNumbers(t *testing.T) {
	odd := []api.Edge{{At: span(9, -9)}, {Wide: span(math.MaxInt, math.MinInt)}, {Deep: span(-1, 99999)}, edge('a')}
	odd[3].Kind = api.EdgeFlat
	for _, a := range odd {
		for _, b := range odd {
			d, s := blanks(1, 1), piece("----")
			for side := range 4 {
				d.Pieces[0].Edges[side], s.Edges[side] = a, b
			}
			if l, e := scan.Seats(d, s); len(l) != 4 || e != api.OK {
				t.Errorf("%v and %v: Seats = %v, error %d", a, b, l, e)
			}
			p := api.Pile{Drawing: d, Scans: []api.Piece{s}}
			if _, _, n, e := scan.Truths(p); n != 4 || e != api.OK {
				t.Errorf("%v and %v: Truths has %d, error %d", a, b, n, e)
			}
		}
	}
}

// P7.3 to P7.6: the examples of the chapter.
func TestExamples(t *testing.T) {
	scans := scanP + " " + scanQ + " " + scanR
	for i, c := range []struct {
		p    api.Pile
		want answers
		e    api.Errno
	}{
		{pile(strip(), scanP, "", 3, 0), answers{cells: []int{6}, told: seats("?"), sure: 9, may: 15, first: seats("1.0"), second: seats("2.0"), many: 2}, api.OK},
		{pile(strip(), scans, "", 1, 0), answers{cells: []int{4, 2, 1}, told: seats("2.0 1.0 0.3"), sure: 8, may: 8, first: seats("2.0 1.0 0.3"), many: 1}, api.OK},
		{pile(strip(), scanQ+" "+scanQ, "", 3, 0), answers{}, api.ErrState},
		{pile(strip(), scanQ+" "+scanQ, "", 3, 1), answers{cells: []int{2, 2}, alien: 3, told: seats("? ?"), sure: 13, may: 13, first: seats("x 1.0"), second: seats("1.0 x"), many: 2}, api.OK},
	} {
		if a, e := ask(c.p); !a.equal(c.want) || e != ofEach(c.e) {
			t.Errorf("%d: %v, errors %v", i, a, e)
		}
	}
}

// column is the drawing of the chapter's examples, upright; wheel is a right drawing whose pieces are all alike, each of them turned otherwise.
func column() api.Puzzle { return drawing(1, 4, "--a- A-a- A-b- B---") }
func wheel() api.Puzzle  { return drawing(2, 2, "-aA- --aA aA-- A--a") }

// checkPile checks all that is said of a pile, if these are all its truths.
func checkPile(t *testing.T, p api.Pile, all [][]api.Seat) {
	t.Helper()
	want, e := expected(p, all)
	if a, f := ask(p); !a.equal(want) || f != ofEach(e) {
		t.Errorf("%v: %v, errors %v, not %v, error %d", p, a, f, want, e)
	}
}

// checkPiles checks piles with all their truths, in their order; "none" is no truth.
func checkPiles(t *testing.T, l []pileCase) {
	t.Helper()
	for _, c := range l {
		if c.all == "none" {
			checkPile(t, c.p, nil)
		} else {
			checkPile(t, c.p, truths(c.all))
		}
	}
}

type pileCase struct {
	p   api.Pile
	all string
}

// P7.3 to P7.6, P7.9: how many are lost, and how many are aliens.
func TestLostAndForeign(t *testing.T) {
	whole, alike := "-t-- -t-T -u-T ---U", "-t-- -t-- -t--"
	checkPiles(t, []pileCase{
		// No scans: in the only truth all is missing, if all can be lost.
		{pile(strip(), "", "", 4, 0), ""}, {pile(strip(), "", "", 9, 3), ""}, {pile(blanks(1, 1), "", "", 1, 0), ""}, {pile(block(), "", "", 9, 0), ""}, {pile(strip(), "", "", 3, 0), "none"}, {pile(strip(), "", "", 3, 3), "none"}, {pile(blanks(1, 1), "", "", 0, 1), "none"}, {pile(block(), "", "", 8, 3), "none"},
		// More cells are lost than may be, just as many, fewer, and more may be than there are.
		{pile(strip(), scanQ, "", 2, 0), "none"}, {pile(strip(), scanQ, "", 2, 3), "none"}, {pile(strip(), scanQ, "", 3, 0), "1.0"}, {pile(strip(), scanP, "", 4, 0), "1.0|2.0"}, {pile(strip(), scanP, "", 9, 0), "1.0|2.0"},
		// None lost and none foreign: all are there, or there is no truth.
		{pile(strip(), whole, "", 0, 0), "0.0 1.0 2.0 3.0"}, {pile(strip(), "-t-- -w-T -w-T ---U", "", 0, 0), "0.0 1.0 2.0 3.0|0.0 2.0 1.0 3.0"}, {pile(strip(), "-t-- -t-T -u-T", "", 0, 0), "none"}, {pile(strip(), "-t-- -t-T -u-T ----", "", 0, 0), "none"}, {pile(strip(), whole+" -t--", "", 0, 0), "none"}, {pile(strip(), "-t-- -t-T -t-T ---U", "", 0, 0), "none"},
		{pile(blanks(2, 2), "---- ---- ----", "", 0, 0), "none"}, {pile(blanks(1, 1), "---- ----", "", 0, 0), "none"},
		// Scans without a seat, or whose seat is taken, must be aliens.
		{pile(strip(), "---- -t--", "", 3, 1), "x 0.0"}, {pile(strip(), "---- tttt", "", 4, 2), "x x"}, {pile(strip(), "---- tttt", "", 4, 1), "none"}, {pile(strip(), "---- tttt", "", 3, 2), "none"}, {pile(strip(), alike, "", 3, 1), "none"}, {pile(strip(), alike, "", 3, 2), "x x 0.0|x 0.0 x|0.0 x x"}, {pile(strip(), alike, "", 9, 3), "x x x|x x 0.0|x 0.0 x|0.0 x x"},
		// A scan can be an alien unless its cell would be one too many that is lost.
		{pile(strip(), scanQ, "", 3, 3), "1.0"}, {pile(strip(), scanQ, "", 4, 1), "x|1.0"}, {pile(strip(), scanP+" "+scanQ, "", 3, 0), "2.0 1.0"}, {pile(strip(), scanP+" "+scanQ, "", 2, 2), "2.0 1.0"}, {pile(strip(), scanP+" "+scanQ, "", 3, 2), "x 1.0|1.0 x|2.0 x|2.0 1.0"}, {pile(strip(), scanP+" "+scanQ, "", 4, 1), "x 1.0|1.0 x|2.0 x|2.0 1.0"},
	})
}

// P7.3 to P7.6: what is told of cells and of turns.
func TestCellsAndTurns(t *testing.T) {
	checkPiles(t, []pileCase{
		// The cell is the same in each truth, the turn is not, or is; an alien has neither.
		{pile(blanks(1, 1), "----", "", 0, 0), "0.0|0.1|0.2|0.3"}, {pile(blanks(1, 1), "----", "", 1, 1), "x|0.0|0.1|0.2|0.3"}, {pile(drawing(1, 1, "a-a-"), "-t-t", "", 0, 0), "0.1|0.3"}, {pile(drawing(1, 1, "a---"), "-t--", "", 0, 0), "0.3"},
		{pile(drawing(2, 1, "a-a- b---"), "-u-- -t-t", "", 0, 0), "1.3 0.1|1.3 0.3"}, {pile(drawing(2, 1, "a-a- b---"), "-t-t tttt", "", 1, 1), "0.1 x|0.3 x"},
		// The turn is the same, but the cell is not.
		{pile(drawing(2, 1, "a--- a---"), "--t-", "", 1, 0), "0.2|1.2"}, {pile(drawing(2, 1, "a--- -a--"), "--t-", "", 1, 0), "0.2|1.3"}, {pile(drawing(2, 1, "a--- a---"), "a--- a---", "", 0, 0), "0.0 1.0|1.0 0.0"},
		// Truths are put in order by the cell, then by the turn, of the first scan first.
		{pile(drawing(2, 1, "a-a- a---"), "t-w-", "", 1, 0), "0.0|0.2"}, {pile(drawing(2, 1, "a-a- wa--"), "-t-t ta--", "", 0, 0), "0.1 1.0|0.3 1.0"}, {pile(drawing(3, 1, "-a-- a-a- a---"), "--a- -a--", "", 2, 1), "x 0.0|x 2.3|0.3 x|0.3 2.3|2.2 x|2.2 0.0"},
	})
}

// P7.3 to P7.6: scans that hang together.
func TestHang(t *testing.T) {
	two, upright := scanP+" "+scanP, "T-w- T-w-"
	ring := "0.1-1.2 1.1-2.2 2.1-3.2 3.1-0.2"
	rim, lone, spread := drawing(2, 2, "---- -a-- ---A ----"), drawing(1, 1, "a---"), drawing(2, 1, "-a-- AAAA")
	checkPiles(t, []pileCase{
		// Along a row; which scan comes first, and how often it is said, makes no difference.
		{pile(strip(), two, "", 2, 0), "1.0 2.0|2.0 1.0"}, {pile(strip(), two, "0.1-1.3", 2, 0), "1.0 2.0"}, {pile(strip(), two, "1.3-0.1", 2, 0), "1.0 2.0"}, {pile(strip(), two, "1.1-0.3", 2, 0), "2.0 1.0"}, {pile(strip(), two, "0.1-1.3 1.3-0.1 0.1-1.3", 2, 0), "1.0 2.0"}, {pile(strip(), two, "0.1-1.3 0.3-1.1", 9, 0), "none"},
		// Along a column, and turned.
		{pile(column(), upright, "", 2, 0), "1.0 2.0|2.0 1.0"}, {pile(column(), upright, "0.2-1.0", 2, 0), "1.0 2.0"}, {pile(column(), upright, "0.0-1.2", 2, 0), "2.0 1.0"}, {pile(column(), two, "0.1-1.3", 2, 0), "1.1 2.1"}, {pile(strip(), upright, "0.2-1.0", 2, 0), "1.3 2.3"},
		// Both, with one that lies at the corner.
		{pile(square(), "-tu- T--T --tT Ut--", "0.1-2.3 2.2-1.0 1.3-3.1 3.0-0.2", 0, 0), "0.0 3.0 1.0 2.0"}, {pile(square(), "-tu- --tT", "0.1-1.3", 2, 0), "0.0 1.0"}, {pile(wheel(), "-tT- -tT-", "0.1-1.2", 2, 0), "0.0 1.1|1.1 3.2|2.3 0.0|3.2 2.3"}, {pile(wheel(), "-tT- tT--", "0.1-1.1", 2, 0), "0.0 1.2|1.1 3.3|2.3 0.1|3.2 2.0"},
		{pile(wheel(), "-tT- -tT- -tT- -tT-", ring, 0, 0), "0.0 1.1 3.2 2.3|1.1 3.2 2.3 0.0|2.3 0.0 1.1 3.2|3.2 2.3 0.0 1.1"},
		// Three that hang in a ring have no place, nor have two on the same side of a third one.
		{pile(wheel(), "-tT- -tT- -tT-", "0.1-1.2 1.1-2.2 2.1-0.2", 9, 2), "none"}, {pile(wheel(), "-tT- -tT- -tT-", "0.1-1.2 1.1-2.2 2.1-0.2", 9, 3), "x x x"}, {pile(wheel(), "-tT- -tT- -tT-", "0.1-1.2 0.1-2.2", 9, 2), "none"}, {pile(wheel(), "-tT- -tT- -tT-", "0.1-1.2 0.1-2.2", 9, 3), "x x x"},
		// Two joins that agree on the cell, but not on the turn.
		{pile(spread, "-t-- TTTT", "0.1-1.2", 0, 0), "0.0 1.1"}, {pile(spread, "-t-- TTTT", "0.1-1.2 0.1-1.3", 0, 2), "none"}, {pile(spread, "-t-- TTTT", "0.1-1.2 0.1-1.3", 2, 2), "x x"},
		// Cells that are no neighbours: too far apart, or one at the end of a row and the other one at the beginning of the next; and no cell behind a side.
		{pile(strip(), "-t-- ---W", "0.1-1.3", 2, 0), "none"}, {pile(strip(), "-t-- ---W", "", 2, 0), "0.0 3.0"}, {pile(rim, "-t-- ---T", "0.1-1.3", 9, 0), "none"}, {pile(rim, "---T -t--", "1.1-0.3", 9, 0), "none"}, {pile(rim, "-t-- ---T", "", 9, 0), "1.0 2.0"}, {pile(lone, "t--- --T-", "0.0-1.2", 1, 1), "none"}, {pile(lone, "t--- --T-", "0.0-1.2", 1, 2), "x x"}, {pile(lone, "t--- --T-", "", 1, 1), "0.0 x"},
		// Both are aliens, or none is.
		{pile(wheel(), "-tT- -tT-", "0.1-1.2", 4, 1), "0.0 1.1|1.1 3.2|2.3 0.0|3.2 2.3"}, {pile(wheel(), "-tT- -tT-", "0.1-1.2", 4, 2), "x x|0.0 1.1|1.1 3.2|2.3 0.0|3.2 2.3"}, {pile(wheel(), "-tT- -tT-", "0.1-1.2", 3, 2), "0.0 1.1|1.1 3.2|2.3 0.0|3.2 2.3"}, {pile(strip(), "-t-T -t-T -t-T -t-T", "0.1-1.3 2.1-3.3", 9, 3), "none"}, {pile(strip(), "-w-T -w-T -t-T -w-T", "0.1-1.3 2.1-3.3", 9, 2), "x x 1.0 2.0|1.0 2.0 x x"},
		{pile(strip(), "-t-T -t-T", "0.1-1.3", 9, 1), "none"}, {pile(strip(), "-t-T -t-T", "0.1-1.3", 9, 2), "x x"}, {pile(strip(), "-w-T -w-T -t--", "0.1-1.3", 9, 2), "x x 0.0|1.0 2.0 x|1.0 2.0 0.0"}, {pile(strip(), "-w-T -w-T -t--", "0.1-1.3", 2, 3), "1.0 2.0 x|1.0 2.0 0.0"}, {pile(strip(), "-w-T -w-T -t--", "0.1-1.3 2.1-0.3", 9, 3), "x x x|1.0 2.0 0.0"},
		// A scan can be another one's neighbour only at its own seat.
		{pile(strip(), "-t-- -u-T", "0.1-1.3", 9, 0), "none"}, {pile(strip(), "-t-- -w-T", "0.1-1.3", 9, 0), "0.0 1.0"}, {pile(strip(), "-t-- t-T-", "0.1-1.2", 9, 0), "0.0 1.1"},
	})
}

// P7.6: about MaxTruths, and far beyond it.
func TestMaxTruths(t *testing.T) {
	cells := func(a, b int, x, y string) api.Puzzle {
		return drawing(9, 1, strings.Repeat(x+" ", a)+strings.Repeat(y+" ", b))
	}
	for _, c := range []struct {
		p   api.Pile
		all int
	}{
		{pile(cells(5, 4, "a-a-", "b-b-"), "t-t- u-u-", "", 9, 2), 99}, {pile(cells(3, 6, "a---", "----"), "t--- ----", "", 9, 2), 100}, {pile(cells(5, 4, "a---", "----"), "t--- ----", "", 9, 1), 101},
		{pile(cells(9, 0, "----", "----"), "---- ---- ----", "", 9, 3), 35821}, {pile(cells(1, 8, "a---", "----"), "t--- ---- ----", "", 9, 0), 896},
	} {
		all, ok := slowTruths(c.p, 50000)
		if len(all) != c.all || !ok {
			t.Fatalf("there are %d truths, not %d", len(all), c.all)
		}
		checkPile(t, c.p, all)
	}
}

// P1, P7.3 to P7.6: far more truths than can be gone through, and far more lists that are none.
func TestHardPiles(t *testing.T) {
	flat := func(scans, lost, foreign int) api.Pile {
		return pile(blanks(3, 3), strings.Repeat("---- ", scans), "", lost, foreign)
	}
	unknown := func(n int) []api.Seat { return slices.Repeat(seats("?"), n) }
	for i, c := range []struct {
		p    api.Pile
		want answers
		e    api.Errno
	}{
		{flat(12, 0, 3), answers{slices.Repeat([]int{511}, 12), 4095, unknown(12), 0, 0, seats("x x x 0.0 1.0 2.0 3.0 4.0 5.0 6.0 7.0 8.0"), seats("x x x 0.0 1.0 2.0 3.0 4.0 5.0 6.0 7.0 8.1"), 100}, api.OK},
		{flat(9, 0, 0), answers{slices.Repeat([]int{511}, 9), 0, unknown(9), 0, 0, seats("0.0 1.0 2.0 3.0 4.0 5.0 6.0 7.0 8.0"), seats("0.0 1.0 2.0 3.0 4.0 5.0 6.0 7.0 8.1"), 100}, api.OK},
		{flat(10, 9, 2), answers{slices.Repeat([]int{511}, 10), 1023, unknown(10), 0, 511, seats("x x 0.0 1.0 2.0 3.0 4.0 5.0 6.0 7.0"), seats("x x 0.0 1.0 2.0 3.0 4.0 5.0 6.0 7.1"), 100}, api.OK},
		{flat(8, 1, 0), answers{slices.Repeat([]int{511}, 8), 0, unknown(8), 0, 511, seats("0.0 1.0 2.0 3.0 4.0 5.0 6.0 7.0"), seats("0.0 1.0 2.0 3.0 4.0 5.0 6.0 7.1"), 100}, api.OK},
		{flat(12, 9, 2), answers{}, api.ErrState}, {flat(10, 9, 0), answers{}, api.ErrState}, {flat(8, 0, 3), answers{}, api.ErrState},
		// The last scan takes what all others could have.
		{pile(drawing(3, 3, strings.Repeat("a--- ", 8)+"----"), strings.Repeat("--t- ", 9)+"----", "", 9, 1), answers{append(slices.Repeat([]int{255}, 9), 256), 511, append(unknown(9), seats("8.0")...), 0, 0, seats("x 0.2 1.2 2.2 3.2 4.2 5.2 6.2 7.2 8.0"), seats("x 0.2 1.2 2.2 3.2 4.2 5.2 6.2 7.2 8.1"), 100}, api.OK},
		{pile(drawing(3, 3, strings.Repeat("a--- ", 8)+"----"), strings.Repeat("--t- ", 9)+"----", "", 9, 0), answers{}, api.ErrState},
	} {
		if a, e := ask(c.p); !a.equal(c.want) || e != ofEach(c.e) {
			t.Errorf("%d: %v, errors %v", i, a, e)
		}
	}
}

// badPiles returns piles that are not valid, each for one cause.
func badPiles() []api.Pile {
	var l []api.Pile
	change := func(f func(p *api.Pile)) {
		for _, p := range []api.Pile{pile(strip(), scanP+" "+scanP, "0.1-1.3 1.3-0.1", 2, 0), pile(wheel(), "-tT- -tT- -tT-", "0.1-1.2 1.1-2.2", 1, 3)} {
			f(&p)
			l = append(l, p)
		}
	}
	for _, d := range badDrawings() {
		change(func(p *api.Pile) { p.Drawing = d })
	}
	for _, x := range badPieces() {
		change(func(p *api.Pile) { p.Scans[0] = x })
		change(func(p *api.Pile) { p.Scans[len(p.Scans)-1] = x })
	}
	change(func(p *api.Pile) { p.Scans = slices.Repeat(p.Scans[:1], 13) })
	change(func(p *api.Pile) { p.Hang = slices.Repeat(p.Hang[:1], 13) })
	change(func(p *api.Pile) { p.Scans = nil })
	change(func(p *api.Pile) { p.Scans = p.Scans[:1] })
	for _, n := range []int{-1, 4, math.MinInt, math.MaxInt} {
		for last := range 2 {
			change(func(p *api.Pile) { p.Hang[last].A = n })
			change(func(p *api.Pile) { p.Hang[last].B = n })
			change(func(p *api.Pile) { p.Hang[last].I = n })
			change(func(p *api.Pile) { p.Hang[last].J = n })
		}
		change(func(p *api.Pile) { p.Foreign = n })
	}
	for last := range 2 {
		change(func(p *api.Pile) { p.Hang[last].B = len(p.Scans) })
		// A scan hangs together with itself, by two sides that would fit, or by one.
		change(func(p *api.Pile) { p.Hang[last].B = p.Hang[last].A })
		change(func(p *api.Pile) { p.Hang[last] = api.Join{} })
	}
	for _, n := range []int{-1, 10, math.MinInt, math.MaxInt} {
		change(func(p *api.Pile) { p.Lost = n })
	}
	return l
}

// checkError checks that all functions that take a pile return an error, and nothing else.
func checkError(t *testing.T, p api.Pile, want api.Errno) {
	t.Helper()
	if a, e := ask(p); !a.equal(answers{}) || e != ofEach(want) {
		t.Errorf("%v: %v, errors %v, not %d", p, a, e, want)
	}
}

// What is not valid comes first, then a join that never fits, then that there is no truth.
func TestErrorsComeInTheirOrder(t *testing.T) {
	for _, p := range badPiles() {
		checkError(t, p, api.ErrArg)
		// It comes also before a join that never fits and stands before it.
		p.Hang = append([]api.Join{{A: 0, I: 0, B: 1, J: 0}}, p.Hang...)
		checkError(t, p, api.ErrArg)
	}
	for _, d := range badDrawings() {
		for _, p := range append(badPieces(), piece("----")) {
			if l, e := scan.Seats(d, p); len(l) > 0 || e != api.ErrArg {
				t.Errorf("%v, %v: Seats = %v, error %d", d, p, l, e)
			}
		}
	}
	for _, p := range badPieces() {
		if l, e := scan.Seats(strip(), p); len(l) > 0 || e != api.ErrArg {
			t.Errorf("%v: Seats = %v, error %d", p, l, e)
		}
	}
	// Sides that never fit: flat ones, of one kind, too narrow; also of aliens, also if there is no truth anyway, and not only in the first join.
	for _, c := range []struct{ scans, hang string }{
		{"-t-- -t-T", "0.0-1.0"}, {"-t-- -t-T", "0.1-1.1"}, {"-t-- -t-T", "0.2-1.3"}, {"-t-T -t-T", "0.3-1.3"}, {"-u-- -t-T", "0.1-1.3"}, {"-t-- ---U", "0.1-1.3"}, {"-t-- -t-T", "1.3-0.0"}, {"-t-- -t-T", "0.1-1.3 0.1-1.1"}, {"tttt tttt", "0.0-1.0"}, {"---- ----", "0.1-1.3"}, {"-t-- -t-T tttt", "0.1-1.3 1.1-2.0"},
	} {
		for foreign := range 4 {
			for _, lost := range []int{0, 2, 9} {
				checkError(t, pile(strip(), c.scans, c.hang, lost, foreign), api.ErrRefuse)
			}
		}
	}
	// Sides that fit perhaps, or always, are not refused.
	for _, scans := range []string{"-t-- -t-T", "-a-- -a-A", "-p-- -a-A", "-w-- -w-W"} {
		checkError(t, pile(strip(), scans, "0.1-1.3", 0, 0), api.ErrState)
	}
}

// What is just within the limits is valid.
func TestLimits(t *testing.T) {
	p := pile(strip(), "-t-- "+strings.Repeat("-t-T ", 11), "", 9, 3)
	p.Hang = slices.Repeat([]api.Join{{A: 0, I: 1, B: 11, J: 3}}, 12)
	checkError(t, p, api.ErrState)
	p = pile(strip(), "-t-- -t-T", "", 2, 0)
	p.Hang = slices.Repeat([]api.Join{{A: 0, I: 1, B: 1, J: 3}}, 12)
	checkPile(t, p, truths("0.0 1.0"))
	checkPile(t, pile(block(), "", "", 9, 3), truths(""))
	// All twelve inner sides of nine pieces hang together.
	whole := "-tu- -tuT --uT Utu- UtuT U-uT Ut-- Ut-T U--T"
	hang := "0.1-1.3 1.1-2.3 3.1-4.3 4.1-5.3 6.1-7.3 7.1-8.3 0.2-3.0 1.2-4.0 2.2-5.0 3.2-6.0 4.2-7.0 5.2-8.0"
	checkPile(t, pile(block(), whole, hang, 0, 0), truths("0.0 1.0 2.0 3.0 4.0 5.0 6.0 7.0 8.0"))
	checkPile(t, pile(block(), whole+" -tu- ---- U--T", hang, 0, 3), truths("0.0 1.0 2.0 3.0 4.0 5.0 6.0 7.0 8.0 x x x"))
}
