package anew_test

import (
	"math"
	"slices"
	"testing"

	"jigworks/anew"
	"jigworks/api"
)

// made is the made piece M of the chapter's examples.
const made = "-a-A"

// P10.1.
func TestAround(t *testing.T) {
	for i, c := range []struct {
		r    api.Repair
		want string
	}{
		{strip(1), "-A-a"}, {strip(0), "-A--"}, {strip(2), "-B-a"}, {strip(3), "---b"},
		// One piece, and a single column.
		{one(), "----"}, {repair(1, 3, 0, "--a- A-b- B---"), "--A-"}, {repair(1, 3, 1, "--a- A-b- B---"), "a-B-"}, {repair(1, 3, 2, "--a- A-b- B---"), "b---"},
		// At the corners, on the rim, within.
		{block(0), "-AB-"}, {block(1), "-ABa"}, {block(2), "--Ba"}, {block(3), "bAB-"}, {block(4), "bABa"}, {block(5), "b-Ba"}, {block(6), "bA--"}, {block(7), "bA-a"}, {block(8), "b--a"},
		// The numbers of pieces are not those of their cells.
		{laidAs(strip(1), "1 0 2 3"), "----"}, {laidAs(strip(1), "0 2 1 3"), "-B-b"}, {laidAs(alike(2), "2 0 1 3"), "----"}, {laidAs(repair(4, 1, 0, "-a-A ---B -a-- -b-A"), "2 0 3 1"), "-A-a"}, {laidAs(repair(4, 1, 3, "-a-A ---B -a-- -b-A"), "2 0 3 1"), "-B-a"},
		// The neighbours are turned.
		{turning(repair(2, 2, 0, "-ab- -aA- Ba-- A--A"), "0 1.1 2 3"), "-AB-"}, {turning(repair(2, 2, 3, "-ab- -aA- Ba-- A--A"), "0 1.1 2 3"), "a--a"}, {turning(repair(2, 2, 3, "-ab- aA-- a--B A--A"), "0 1.2 2.1 3"), "a--a"}, {turning(repair(2, 2, 0, "---- A--a Ba-- --AA"), "0 1.3 2 3.1"), "-AB-"},
		// The lost one is turned, and lies where it cannot be.
		{turning(strip(1), "0 1.1 2 3"), "-A-a"}, {turning(strip(3), "0 1 2 3.2"), "---b"},
	} {
		want := edges(c.want)
		if l, e := anew.Around(c.r); l != want || e != api.OK {
			t.Errorf("%d: Around = %v, error %d, not %s", i, l, e, c.want)
		}
	}
}

// P10.2.
func TestShape(t *testing.T) {
	usual := play()
	with := func(length, slack, loose, lo, hi int) api.Play {
		return api.Play{Length: length, Slack: slack, Loose: loose, Damp: span(lo, hi)}
	}
	side := func(kind int, n ...int) api.Edge {
		return api.Edge{Kind: kind, At: span(n[0], n[1]), Wide: span(n[2], n[3]), Deep: span(n[4], n[5])}
	}
	const tab, hole = api.EdgeTab, api.EdgeHole
	at := []int{1000, 1000}
	for i, c := range []struct {
		p           api.Play
		other, want api.Edge
	}{
		{usual, edge('A'), side(tab, 981, 1019, 486, 515, 381, 410)}, {usual, edge('a'), side(hole, 981, 1019, 500, 529, 400, 429)},
		// Spans of the other side, up to the broadest ones.
		{usual, side(tab, 990, 1010, 500, 510, 400, 405), side(hole, 991, 1009, 510, 529, 405, 429)}, {usual, side(hole, 990, 1010, 500, 510, 400, 405), side(tab, 991, 1009, 481, 500, 376, 400)},
		{usual, side(tab, 981, 1019, 500, 529, 400, 429), side(hole, 1000, 1000, 529, 529, 429, 429)}, {usual, side(hole, 981, 1019, 500, 529, 400, 429), side(tab, 1000, 1000, 500, 500, 400, 400)},
		// Damp, and what is allowed.
		{with(2000, 20, 30, 0, 0), edge('a'), side(hole, 980, 1020, 500, 530, 400, 430)}, {with(2000, 20, 30, 0, 0), edge('A'), side(tab, 980, 1020, 485, 515, 380, 410)}, {with(2000, 20, 30, 100, 100), edge('a'), side(hole, 982, 1018, 500, 527, 400, 427)}, {with(2000, 20, 30, 0, 100), edge('a'), side(hole, 982, 1018, 500, 527, 400, 427)},
		{with(2000, 0, 0, 0, 100), edge('a'), side(hole, 1000, 1000, 500, 500, 400, 400)}, {with(2000, 0, 0, 0, 0), edge('A'), side(tab, 1000, 1000, 515, 515, 410, 410)}, {with(2000, 500, 500, 0, 0), edge('a'), side(hole, 500, 1500, 500, 1000, 400, 900)}, {with(2000, 500, 500, 100, 100), edge('A'), side(tab, 546, 1454, 61, 515, 1, 410)},
		{with(2000, 1, 1, 0, 1), edge('a'), side(hole, 1000, 1000, 500, 500, 400, 400)}, {with(2000, 1, 1, 0, 0), edge('a'), side(hole, 999, 1001, 500, 501, 400, 401)},
		// Numbers at 0, at 1 and at the greatest ones: only what a valid side can have.
		{usual, side(tab, 0, 0, 1, 1, 1, 1), side(hole, 1981, 2019, 1, 30, 1, 30)}, {usual, side(hole, 0, 0, 1, 1, 1, 1), side(tab, 1981, 2019, 1, 1, 1, 1)}, {usual, side(hole, 2000, 2000, 2, 2, 30, 30), side(tab, 0, 19, 1, 2, 1, 30)}, {usual, side(hole, 2019, 2019, 31, 31, 32, 32), side(tab, 0, 0, 2, 31, 3, 32)},
		{usual, side(tab, 2000, 2000, 3000, 3000, 2972, 2972), side(hole, 0, 19, 3000, 3000, 2972, 3000)}, {usual, side(tab, 1999, 2001, 2999, 3000, 2971, 2971), side(hole, 0, 18, 3000, 3000, 2971, 3000)}, {usual, side(hole, 1000, 1000, 3000, 3000, 3000, 3000), side(tab, 981, 1019, 2971, 3000, 2971, 3000)},
		{with(10000, 20, 30, 0, 10), side(tab, 0, 0, 500, 500, 400, 400), side(hole, 9981, 10000, 500, 529, 400, 429)}, {with(10000, 20, 30, 0, 10), side(hole, 10000, 10000, 500, 500, 400, 400), side(tab, 0, 19, 471, 500, 371, 400)}, {with(1, 20, 30, 0, 10), side(tab, 0, 0, 500, 500, 400, 400), side(hole, 0, 20, 500, 529, 400, 429)},
		{with(1, 500, 30, 0, 10), side(tab, 0, 496, 500, 500, 400, 400), side(hole, 0, 0, 500, 529, 400, 429)},
	} {
		if s, e := anew.Shape(c.p, c.other); s != c.want || e != api.OK {
			t.Errorf("%d: Shape = %v, error %d, not %v", i, s, e, c.want)
		}
	}
	// Nothing always fits, as one number is not known well enough, or lies too far off.
	for i, other := range []api.Edge{
		side(tab, 980, 1019, 500, 500, 400, 400), side(hole, 980, 1019, 500, 500, 400, 400), side(tab, 1000, 1000, 500, 530, 400, 400), side(hole, 1000, 1000, 500, 530, 400, 400), side(tab, 1000, 1000, 500, 500, 400, 430), side(hole, 1000, 1000, 500, 500, 400, 430),
		side(tab, 0, 10000, 1, 3000, 1, 3000), side(hole, 0, 10000, 1, 3000, 1, 3000), side(tab, 2020, 2020, 500, 500, 400, 400), side(hole, 10000, 10000, 500, 500, 400, 400), side(tab, 2010, 2020, 500, 500, 400, 400),
	} {
		if s, e := anew.Shape(usual, other); s != (api.Edge{}) || e != api.ErrNone {
			t.Errorf("%d: Shape = %v, error %d", i, s, e)
		}
	}
	for _, c := range []struct {
		p api.Play
		n []int
	}{{with(10000, 20, 30, 0, 10), []int{0, 0}}, {with(2000, 0, 0, 0, 0), at}} {
		for _, kind := range []int{tab, hole} {
			other := side(kind, c.n[0], c.n[1], 500, 501, 400, 400)
			if _, e := anew.Shape(c.p, other); (e == api.ErrNone) != (c.p.Loose == 0) {
				t.Errorf("Shape for %v has the error %d", other, e)
			}
		}
	}
}

// P10.2: what is not valid, and flat sides.
func TestShapeErrors(t *testing.T) {
	bad := append(badEdges(), oddFlats()...)
	for _, other := range append(bad, api.Edge{}) {
		if s, e := anew.Shape(play(), other); s != (api.Edge{}) || e != api.ErrArg {
			t.Errorf("Shape for %v = %v, error %d", other, s, e)
		}
	}
	for _, p := range badPlays() {
		for _, other := range []api.Edge{{}, edge('a'), edge('A')} {
			if s, e := anew.Shape(p, other); s != (api.Edge{}) || e != api.ErrArg {
				t.Errorf("Shape of %v for %v = %v, error %d", p, other, s, e)
			}
		}
	}
}

// P10.3.
func TestFits(t *testing.T) {
	for i, c := range []struct {
		r    api.Repair
		made string
		want int
	}{
		{strip(1), made, api.FitAlways}, {strip(1), "-p-A", api.FitPerhaps}, {strip(3), made, api.FitNever},
		// Each side of its own: always, perhaps, never.
		{strip(1), "-c-E", api.FitAlways}, {strip(1), "-a-P", api.FitPerhaps}, {strip(1), "-p-P", api.FitPerhaps}, {strip(1), "-w-W", api.FitPerhaps}, {strip(1), "-b-A", api.FitNever}, {strip(1), "-a-B", api.FitNever}, {strip(1), "-p-B", api.FitNever}, {strip(1), "-b-P", api.FitNever}, {strip(1), "-A-a", api.FitNever}, {strip(1), "-a-a", api.FitNever},
		// Flat behind a side, and not flat on the rim.
		{strip(1), "---A", api.FitNever}, {strip(1), "-a--", api.FitNever}, {strip(1), "----", api.FitNever}, {strip(1), "aa-A", api.FitNever}, {strip(1), "-aaA", api.FitNever}, {strip(1), "-aAA", api.FitNever}, {strip(1), "Ap-A", api.FitNever},
		{strip(0), "-a--", api.FitAlways}, {strip(0), "-p--", api.FitPerhaps}, {strip(0), made, api.FitNever}, {strip(0), "-a-a", api.FitNever}, {strip(0), "----", api.FitNever}, {strip(3), "---B", api.FitAlways}, {strip(3), "---W", api.FitPerhaps}, {strip(3), "---A", api.FitNever}, {strip(3), "-a-B", api.FitNever},
		// One piece, and a single column.
		{one(), "----", api.FitAlways}, {one(), "a---", api.FitNever}, {one(), "-A--", api.FitNever}, {one(), "--p-", api.FitNever}, {one(), "---w", api.FitNever}, {repair(1, 2, 0, "--a- A---"), "--a-", api.FitAlways}, {repair(1, 2, 1, "--a- A---"), "A---", api.FitAlways}, {repair(1, 2, 1, "--a- A---"), "P---", api.FitPerhaps}, {repair(1, 2, 1, "--a- A---"), "---A", api.FitNever},
		// It is not turned, whatever the puzzle allows, and however the lost one was.
		{turning(strip(1), "0 1 2 3"), "-A-a", api.FitNever}, {turning(strip(1), "0 1 2 3"), "A-a-", api.FitNever}, {turning(strip(1), "0 1.1 2 3"), made, api.FitAlways}, {turning(strip(1), "0 1.2 2 3"), made, api.FitAlways}, {turning(strip(1), "0 1.3 2 3"), "A-a-", api.FitNever},
		// Four neighbours.
		{block(4), "BabA", api.FitAlways}, {block(4), "BcbE", api.FitAlways}, {block(4), "WabA", api.FitPerhaps}, {block(4), "BwbA", api.FitPerhaps}, {block(4), "BawA", api.FitPerhaps}, {block(4), "BabP", api.FitPerhaps}, {block(4), "WwwW", api.FitPerhaps}, {block(4), "AabA", api.FitNever}, {block(4), "BbbA", api.FitNever}, {block(4), "BaaA", api.FitNever}, {block(4), "BwbB", api.FitNever}, {block(4), "-abA", api.FitNever},
		{block(0), "-ab-", api.FitAlways}, {block(0), "-pb-", api.FitPerhaps}, {block(2), "--bA", api.FitAlways}, {block(5), "B-bA", api.FitAlways}, {block(7), "Ba-A", api.FitAlways}, {block(8), "B--A", api.FitAlways}, {block(8), "B--B", api.FitNever},
		// The piece 0 is lost, in another cell.
		{laidAs(repair(4, 1, 0, "-a-A ---B -a-- -b-A"), "2 0 3 1"), made, api.FitAlways}, {laidAs(repair(4, 1, 0, "-a-A ---B -a-- -b-A"), "2 0 3 1"), "-a--", api.FitNever},
	} {
		if n, e := anew.Fits(c.r, piece(c.made)); n != c.want || e != api.OK {
			t.Errorf("%d: Fits of %s = %d, error %d, not %d", i, c.made, n, e, c.want)
		}
	}
}

// P10.4.
func TestElsewhere(t *testing.T) {
	turns := func(r api.Repair) api.Repair {
		r.Puzzle.Turn = true
		return r
	}
	for i, c := range []struct {
		r    api.Repair
		made string
		want string
	}{
		{strip(1), made, ""}, {strip(2), "-b-A", "1.0"}, {strip(2), "-b-E", "1.0"}, {strip(2), "-b-B", ""}, {strip(2), "-a-A", "1.0"}, {strip(2), "-w-A", "1.0"},
		// Always and perhaps, never; beside the empty place anything can be.
		{alike(1), "-a-A", "2.0"}, {alike(1), "-p-A", "2.0"}, {alike(1), "-w-A", "2.0"}, {alike(1), "-b-A", ""}, {alike(1), "-a-B", "2.0"}, {alike(1), "-a--", "0.0 2.0"}, {alike(1), "-b--", "0.0"}, {alike(1), "----", "0.0"}, {alike(1), "---a", ""}, {alike(3), "-b--", ""}, {alike(3), "-b-A", "2.0"}, {alike(3), "---A", "2.0"}, {alike(3), "-a-A", "1.0 2.0"}, {alike(0), "---A", "3.0"}, {alike(0), "-a-A", "1.0 2.0"}, {alike(0), "-a-b", "1.0"}, {alike(0), "-a--", "1.0"},
		{spread(), "-a-A", ""}, {spread(), "-c-A", "2.0"}, {spread(), "-d-A", "2.0"},
		// A side on the rim that is not flat.
		{alike(1), "aa-A", ""}, {alike(1), "-aAA", ""}, {strip(3), "---B", ""}, {strip(2), "---B", "3.0"}, {strip(2), "---a", "3.0"}, {strip(2), "-a-a", ""}, {strip(2), "a---", ""},
		// Only when turned, and only if the puzzle can be turned.
		{turns(strip(1)), "-b--", "0.0 2.0"}, {strip(1), "b---", ""}, {turns(strip(1)), "b---", "0.1 2.1"}, {turns(strip(1)), "--b-", "0.3 2.3"}, {turns(strip(1)), "---b", "0.2 2.2"}, {turns(strip(1)), "---B", "0.2 3.0"}, {turns(strip(1)), "B---", "0.1 3.3"}, {turns(strip(1)), "-B--", "0.0 3.2"}, {turns(strip(1)), "--B-", "0.3 3.1"}, {turns(alike(1)), "a-A-", "2.1"}, {turns(alike(1)), "A-a-", "2.3"}, {turns(alike(1)), "-A-a", "2.2"}, {alike(1), "-A-a", ""},
		// In several turns of one cell; the piece 0 is turned, too, if it is the lost one.
		{turns(strip(1)), "----", "0.0 0.1 0.2 0.3"}, {strip(1), "----", "0.0"}, {turns(alike(1)), "-a-a", "2.0 2.2"}, {turns(alike(1)), "a-a-", "2.1 2.3"}, {alike(1), "-a-a", "2.0"}, {turns(star(0)), "-a-a", "1.0 1.2"}, {turns(star(0)), "a-a-", "1.1 1.3"}, {star(0), "a-a-", ""}, {star(0), "-a-a", "1.0"}, {turns(star(0)), "--A-", "2.1"},
		{turns(block(4)), "----", ""}, {turns(block(4)), "-ab-", "0.0"}, {block(4), "-bA-", ""}, {turns(block(4)), "-bA-", "2.1"}, {turns(block(0)), "-ab-", "1.0 3.0"}, {turns(block(0)), "abab", ""}, {block(0), "BabA", "4.0"}, {turns(block(0)), "BabA", "4.0"}, {turns(block(0)), "abAB", "4.1"}, {turns(block(0)), "bABa", "4.2"}, {turns(block(0)), "ABab", "4.3"}, {block(0), "abAB", ""},
		// Two cells beside the place, at which it could lie.
		{square(0), "-w--", "2.0"}, {square(0), "--a-", "1.0"}, {turns(square(0)), "--a-", "1.0 2.3"}, {turns(square(0)), "--w-", "1.0 2.3"}, {turns(square(0)), "-A-a", ""}, {turns(square(0)), "-Aa-", "2.3"}, {turns(square(0)), "-aA-", "1.1"}, {turns(square(0)), "--AA", "3.1"}, {turns(square(3)), "bb--", ""},
		// One piece, or two.
		{one(), "----", ""}, {turns(one()), "----", ""}, {turns(one()), "a---", ""}, {repair(2, 1, 0, "-a-- ---A"), "---A", "1.0"}, {repair(2, 1, 0, "-a-- ---A"), "---p", "1.0"}, {repair(2, 1, 0, "-a-- ---A"), "-p--", ""}, {turns(repair(1, 2, 0, "--a- A---")), "-p--", "1.3"}, {turns(repair(1, 2, 0, "--a- A---")), "----", "1.0 1.1 1.2 1.3"}, {repair(1, 2, 1, "--a- A---"), "--B-", "0.0"},
		// The numbers of pieces are not those of their cells.
		{laidAs(repair(4, 1, 1, "---A -a-A -a-- -a-A"), "2 3 1 0"), "-a-A", "1.0"}, {laidAs(repair(4, 1, 3, "---A -a-A -a-- -a-A"), "2 3 1 0"), "-a-B", "2.0"},
	} {
		if l, e := anew.Elsewhere(c.r, piece(c.made)); !slices.Equal(l, seats(c.want)) || e != api.OK {
			t.Errorf("%d: Elsewhere of %s = %v, error %d, not %s", i, c.made, l, e, c.want)
		}
	}
}

// P10.5.
func TestChoose(t *testing.T) {
	none := [4]int{-1, -1, -1, -1}
	for i, c := range []struct {
		r     api.Repair
		forms string
		with  [4]int
		cost  int
	}{
		{strip(1), "a5 c3 A2 E1", [4]int{-1, 1, -1, 3}, 4}, {strip(1), "A2 a5", [4]int{-1, 1, -1, 0}, 7},
		// One piece: no forms are needed.
		{one(), "", none, 0}, {one(), "a0 A0", none, 0}, {turning(one(), "0"), "a5", none, 0},
		// A single side, at the corners, within.
		{square(0), "a5 p0 b3 A0", [4]int{-1, 0, 2, -1}, 8}, {square(1), "a5 E3 P0", [4]int{-1, -1, 0, 1}, 8}, {square(2), "B1 a5", [4]int{0, 1, -1, -1}, 6}, {square(3), "B0 A5", [4]int{1, -1, -1, 1}, 10}, {strip(3), "b1 A1 B9", [4]int{-1, -1, -1, 2}, 9}, {repair(1, 2, 1, "--a- A---"), "a0 E7", [4]int{1, -1, -1, -1}, 7},
		{block(4), "a1 b2 A4 B8", [4]int{3, 0, 1, 2}, 15}, {turning(block(4), "0 1 2 3 4 5 6 7 8"), "a1 b2 A4 B8", [4]int{3, 0, 1, 2}, 15}, {repair(3, 2, 1, "-aa- -bbA --aB Aa-- Ba-A A--A"), "A4 b3", [4]int{-1, 1, 1, 0}, 10},
		// A form that is taken twice costs twice; of forms that cost as much the first ones are taken.
		{star(1), "a5", [4]int{-1, 0, -1, 0}, 10}, {star(1), "a5 a5", [4]int{-1, 0, -1, 0}, 10}, {star(1), "c5 a5", [4]int{-1, 0, -1, 0}, 10}, {star(1), "a6 c5 a5", [4]int{-1, 1, -1, 1}, 10}, {star(1), "a5 c4", [4]int{-1, 1, -1, 1}, 8}, {strip(1), "a0 a0 A0 A0", [4]int{-1, 0, -1, 2}, 0}, {strip(1), "A0 A0 a0 a0", [4]int{-1, 2, -1, 0}, 0}, {strip(1), "A3 E2 E2 a3 a2 a2", [4]int{-1, 4, -1, 1}, 4},
		// The least and the greatest cost.
		{strip(1), "a0 A0", [4]int{-1, 0, -1, 1}, 0}, {strip(1), "a100000 A100000", [4]int{-1, 0, -1, 1}, 200000}, {block(4), "a100000 b100000 A100000 B100000", [4]int{3, 0, 1, 2}, 400000}, {block(4), "a0 b0 A100000 B0", [4]int{3, 0, 1, 2}, 100000},
		// What fits perhaps is not taken.
		{strip(1), "p1 w0 a5 P0 W0 A1", [4]int{-1, 2, -1, 5}, 6},
		// What could lie elsewhere is not taken.
		{spread(), "a5 c3 A2", [4]int{-1, 0, -1, 2}, 7}, {spread(), "c3 a5 A2 c0", [4]int{-1, 1, -1, 2}, 7},
		// Eight forms, the last of which are needed.
		{strip(1), "b0 B0 p0 P0 w0 W0 A1 a1", [4]int{-1, 7, -1, 6}, 2},
		// What could lie elsewhere only if it is turned.
		{repair(3, 1, 0, "-a-- -A-A ---a"), "a1", [4]int{-1, 0, -1, -1}, 1}, {square(3), "A1 E0", [4]int{1, -1, -1, 1}, 0},
	} {
		if with, cost, e := anew.Choose(c.r, forms(c.forms)); with != c.with || cost != c.cost || e != api.OK {
			t.Errorf("%d: Choose of %s = %v, %d, error %d, not %v, %d", i, c.forms, with, cost, e, c.with, c.cost)
		}
	}
	for i, c := range []struct {
		r     api.Repair
		forms string
	}{
		{strip(3), "a5 c3 A2 E1"}, {strip(1), ""}, {strip(1), "a5"}, {strip(1), "A5"}, {strip(1), "b0 B0 p0 P0 w0 W0"}, {strip(1), "a0 P0"}, {strip(1), "p0 A0"}, {strip(0), "A1"}, {block(4), "a1 A1"},
		{strip(0), "a5 p0 b0 A0"}, {block(0), "a1 b2 A4 B8"}, {block(2), "a1 b2 A4 B8"}, {block(7), "a1 b2 A4 B8"}, {block(8), "a1 b2 A4 B8"}, {alike(1), "a5 c3 A2 E1"}, {alike(2), "a5 c3 A2 E1"}, {spread(), "c3 A2"}, {spread(), "d3 A2"},
		// Of turned pieces.
		{turning(repair(3, 1, 0, "-a-- -A-A ---a"), "0 1 2"), "a1"}, {turning(square(0), "0 1 2 3"), "a5 b3"}, {turning(square(3), "0 1 2 3"), "A1 E0"},
		// A neighbour is flat there.
		{repair(2, 1, 0, "---- ----"), "a0 A0"}, {repair(2, 1, 1, "-a-- ---A"), "a1"},
	} {
		if with, cost, e := anew.Choose(c.r, forms(c.forms)); with != [4]int{} || cost != 0 || e != api.ErrNone {
			t.Errorf("%d: Choose of %s = %v, %d, error %d", i, c.forms, with, cost, e)
		}
	}
}

// P10.6.
func TestAgain(t *testing.T) {
	row := repair(9, 1, 4, "-a-- -a-A -a-A -a-A -a-A -a-A -a-A -a-A ---A")
	for i, c := range []struct {
		r    api.Repair
		made string
		want int
	}{
		{strip(1), made, 1}, {strip(0), made, 0}, {strip(0), "-a--", 1}, {strip(3), "---B", 1}, {strip(2), "-b-A", 1}, {strip(2), "-a-A", 0}, {strip(2), "-w-A", 1}, {strip(1), "-p-E", 1}, {strip(1), "-w-A", 1}, {strip(1), "----", 0},
		// The lost piece itself, and what was laid in another way.
		{alike(0), "-a--", 2}, {alike(1), "-a-A", 2}, {alike(1), "-p-A", 2}, {alike(3), "---A", 2}, {laidAs(alike(1), "0 2 1 3"), "-a-A", 2}, {spread(), "-a-A", 1}, {spread(), "-c-A", 1}, {spread(), "-d-A", 0},
		// What was laid is no solution, but another order is.
		{laidAs(alike(1), "1 0 2 3"), "-a-A", 2}, {laidAs(strip(1), "1 0 2 3"), made, 1},
		{one(), "----", 1}, {one(), "a---", 0}, {turning(one(), "0"), "----", 1},
		// Turned pieces; the piece 0 is not turned, also if it is the lost one.
		{star(1), "-a-a", 1}, {turning(star(1), "0 1 2"), "-a-a", 2}, {turning(star(1), "0 1.1 2"), "-a-a", 2}, {turning(star(1), "0 1.3 2"), "-a-a", 2}, {turning(star(1), "0 1 2"), "a-a-", 2}, {turning(star(0), "0 1 2"), "-A--", 2}, {turning(star(0), "0 1 2"), "---A", 2}, {turning(star(0), "0 1 2"), "A---", 0}, {turning(star(2), "0 1 2"), "A---", 2},
		{turning(square(3), "0 1 2 3.2"), "A--A", 1}, {turning(square(0), "0 1 2 3"), "ab--", 1}, {square(0), "ab--", 0},
		// As many as are counted.
		{row, "-a-A", 100}, {repair(6, 1, 1, "-a-- -a-A -a-A -a-A -a-A ---A"), "-a-A", 24}, {repair(7, 1, 1, "-a-- -a-A -a-A -a-A -a-A -a-A ---A"), "-a-A", 100},
	} {
		if n, e := anew.Again(c.r, piece(c.made)); n != c.want || e != api.OK {
			t.Errorf("%d: Again with %s = %d, error %d, not %d", i, c.made, n, e, c.want)
		}
	}
}

// What a repair needs: of the lost piece only its number, its cell and its Turn are looked at.
func TestLaid(t *testing.T) {
	l := []api.Repair{
		strip(1), laidAs(strip(1), "1 0 2 3"), laidAs(strip(1), "0 2 1 3"), turning(strip(1), "0 1.1 2 3"), turning(strip(1), "0 1.3 2 3"), one(), turning(one(), "0"),
		// Sides that fit perhaps.
		repair(4, 1, 1, "-a-- -a-A -w-A ---B"), repair(4, 1, 0, "-a-- -a-P -a-A ---A"),
		// A side of the lost piece that is not flat on the rim, or never fits.
		repair(4, 1, 1, "-a-- aaAA -b-A ---B"), repair(4, 1, 1, "-a-- -b-B -b-A ---B"), repair(4, 1, 1, "-a-- ---- -b-A ---B"), repair(4, 1, 0, "---A -a-A -b-A ---B"), repair(4, 1, 3, "-a-- -a-A -b-A -a--"), repair(1, 1, 0, "aAbB"),
		// A side that never fits any lost piece.
		repair(4, 1, 1, "---- -a-A -b-- ---B"), repair(2, 1, 0, "---- ----"),
	}
	for i, r := range l {
		_, e := ask(r, api.Piece{}, nil)
		if e[0] != api.OK || e[1] != api.OK || e[2] != api.OK || e[4] != api.OK {
			t.Errorf("%d: errors %v", i, e)
		}
	}
	for _, r := range notLaid() {
		for _, words := range []string{made, "----", "aaaa"} {
			if a, e := ask(r, piece(words), forms("a1 A1")); !a.equal(answers{}) || e != ofEach(api.ErrState) {
				t.Errorf("%v, %s: %v, errors %v", r, words, a, e)
			}
		}
		if with, cost, e := anew.Choose(r, nil); with != [4]int{} || cost != 0 || e != api.ErrState {
			t.Errorf("%v: Choose = %v, %d, error %d", r, with, cost, e)
		}
	}
}

// Of flat sides only the kind is looked at: around, of the made piece, and of those that are laid.
func TestFlatNumbers(t *testing.T) {
	for _, odd := range oddFlats() {
		r := strip(1)
		for n := range r.Puzzle.Pieces {
			for side, e := range r.Puzzle.Pieces[n].Edges {
				if e.Kind == api.EdgeFlat {
					r.Puzzle.Pieces[n].Edges[side] = odd
				}
			}
		}
		m := piece(made)
		m.Edges[0], m.Edges[2] = odd, odd
		want, _ := ask(strip(1), piece(made), forms("a1 A1"))
		if a, e := ask(r, m, forms("a1 A1")); !a.equal(want) || e != ofEach(api.OK) {
			t.Errorf("with %v: %v, errors %v, not %v", odd, a, e, want)
		}
	}
}

// The order of the errors.
func TestErrors(t *testing.T) {
	good, bad := forms("a1 A1"), badForms()
	for _, r := range badRepairs() {
		for _, p := range []api.Piece{piece(made), badPieces()[0]} {
			if a, e := ask(r, p, good); !a.equal(answers{}) || e != ofEach(api.ErrArg) {
				t.Errorf("%v: %v, errors %v", r, a, e)
			}
		}
		for _, l := range [][]api.Form{nil, make([]api.Form, 9), forms("a0 a0 a0 a0 a0 a0 a0 a0 a0"), bad[:1]} {
			if with, cost, e := anew.Choose(r, l); with != [4]int{} || cost != 0 || e != api.ErrArg {
				t.Errorf("%v: Choose of %v = %v, %d, error %d", r, l, with, cost, e)
			}
		}
	}
	for _, r := range append(notLaid()[:20], strip(1), strip(3), one()) {
		for _, p := range badPieces() {
			a, e := ask(r, p, good)
			if a.fits != 0 || a.besides != nil || a.again != 0 || e[1] != api.ErrArg || e[2] != api.ErrArg || e[4] != api.ErrArg {
				t.Errorf("%v, %v: %v, errors %v", r, p, a, e)
			}
		}
		for _, f := range bad {
			for _, l := range [][]api.Form{{f}, append(forms("a1 A1"), f), append([]api.Form{f}, good...), append(forms("a1 A1 a1 A1 a1 A1 a1"), f)} {
				if with, cost, e := anew.Choose(r, l); with != [4]int{} || cost != 0 || e != api.ErrArg {
					t.Errorf("%v: Choose of %v = %v, %d, error %d", r, l, with, cost, e)
				}
			}
		}
		for _, l := range [][]api.Form{make([]api.Form, 9), make([]api.Form, 100), forms("a0 A0 a0 A0 a0 A0 a0 A0 a0"), append(forms("a1 A1 a1 A1 a1 A1 a1 A1"), bad[0])} {
			if with, cost, e := anew.Choose(r, l); with != [4]int{} || cost != 0 || e != api.ErrLong {
				t.Errorf("%v: Choose of %v = %v, %d, error %d", r, l, with, cost, e)
			}
		}
	}
}

// badForms returns forms that are not valid.
func badForms() []api.Form {
	l := []api.Form{{}, {Cost: 5}, {Edge: edge('a'), Cost: -1}, {Edge: edge('A'), Cost: 100001}, {Edge: edge('a'), Cost: math.MinInt}, {Edge: edge('A'), Cost: math.MaxInt}}
	for _, e := range append(badEdges(), oddFlats()...) {
		l = append(l, api.Form{Edge: e, Cost: 1})
	}
	return l
}
