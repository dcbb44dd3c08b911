package solve_test

import (
	"math"
	"slices"
	"strconv"
	"strings"
	"testing"

	"jigworks/api"
	"jigworks/solve"
)

// joins returns joins that are written as in the chapter.
func joins(text string) []api.Join {
	var l []api.Join
	for _, w := range strings.Fields(text) {
		n := func(i int) int { return int(w[i] - '0') }
		l = append(l, api.Join{A: n(0), I: n(2), B: n(4), J: n(6)})
	}
	return l
}

// lonely returns a puzzle of one piece.
func lonely(words string) api.Puzzle { return puzzle(1, 1, true, words) }

// P3.1.
func TestJoins(t *testing.T) {
	odd := puzzle(1, 1, false, "aA--")
	for i, c := range []struct {
		z         api.Puzzle
		sure, may string
	}{
		{puzzleS(), "0.1-1.3 0.1-2.3 0.1-3.3 1.1-2.3 1.1-3.3", "0.1-1.3 0.1-2.3 0.1-3.3 1.1-2.3 1.1-3.3 1.3-2.1 2.1-3.3"},
		{puzzleQ(), "0.1-1.3 0.1-2.0 0.1-3.0 0.1-3.3 0.2-1.3 0.2-2.0 0.2-3.0 0.2-3.3 1.2-2.0 1.2-3.0 1.2-3.3", "0.1-1.3 0.1-2.0 0.1-3.0 0.1-3.3 0.2-1.3 0.2-2.0 0.2-3.0 0.2-3.3 1.2-2.0 1.2-3.0 1.2-3.3 1.3-2.1 2.1-3.0 2.1-3.3"},
		// Of one piece there is none, also if its own sides fit.
		{puzzle(1, 1, false, "----"), "", ""}, {odd, "", ""},
		// What can lie nowhere is joined all the same: sides that look the same way, and in a puzzle without a solution.
		{puzzle(2, 1, false, "a--- A---"), "0.0-1.0", "0.0-1.0"},
		{puzzle(1, 2, false, "aaAA ---p"), "", "0.2-1.3 0.3-1.3"},
		{puzzle(1, 2, false, "---p ab-A"), "", "0.3-1.3"},
		{puzzle(3, 1, true, "bB-- -bB- a-p-"), "0.0-1.2 0.1-1.1", "0.0-1.2 0.1-1.1"},
		// Two of the same piece, and many of two.
		{puzzle(2, 1, false, "aaaa AAAA"), "0.0-1.0 0.0-1.1 0.0-1.2 0.0-1.3 0.1-1.0 0.1-1.1 0.1-1.2 0.1-1.3 0.2-1.0 0.2-1.1 0.2-1.2 0.2-1.3 0.3-1.0 0.3-1.1 0.3-1.2 0.3-1.3", "0.0-1.0 0.0-1.1 0.0-1.2 0.0-1.3 0.1-1.0 0.1-1.1 0.1-1.2 0.1-1.3 0.2-1.0 0.2-1.1 0.2-1.2 0.2-1.3 0.3-1.0 0.3-1.1 0.3-1.2 0.3-1.3"},
		{puzzle(2, 1, false, "---- ----"), "", ""},
	} {
		if sure, may, e := solve.Joins(c.z); !slices.Equal(sure, joins(c.sure)) || !slices.Equal(may, joins(c.may)) || e != api.OK {
			t.Errorf("%d: Joins = %v, %v, error %d", i, sure, may, e)
		}
	}
}

// P3.2, P4: the examples; turned and not; one piece; what has no solution.
func TestSolve(t *testing.T) {
	for i, c := range []struct {
		z             api.Puzzle
		first, second []api.Lay
		many          int
	}{
		{puzzleS(), lays(0, 1, 2, 3), lays(0, 2, 1, 3), 2},
		{puzzleQ(), lays(0, 1, 2, 3), nil, 1},
		// One piece is never turned.
		{lonely("----"), lays(0), nil, 1}, {puzzle(1, 1, false, "----"), lays(0), nil, 1},
		{lonely("a---"), nil, nil, 0}, {lonely("-A--"), nil, nil, 0}, {lonely("--a-"), nil, nil, 0}, {puzzle(1, 1, false, "---A"), nil, nil, 0},
		// To the right: what is above comes to the right, and so on.
		{puzzle(2, 1, true, "-a-- A---"), []api.Lay{{Piece: 0}, {Piece: 1, Turn: 3}}, nil, 1},
		{puzzle(2, 1, true, "-a-- -A--"), []api.Lay{{Piece: 0}, {Piece: 1, Turn: 2}}, nil, 1},
		{puzzle(2, 1, true, "-a-- --A-"), []api.Lay{{Piece: 0}, {Piece: 1, Turn: 1}}, nil, 1},
		{puzzle(2, 1, true, "-a-- ---A"), lays(0, 1), nil, 1},
		{puzzle(2, 1, true, "---a ---A"), []api.Lay{{Piece: 1, Turn: 2}, {Piece: 0}}, nil, 1},
		// Without turning, or with the piece 0 as it would have to be turned, nothing of this can lie.
		{puzzle(2, 1, false, "-a-- A---"), nil, nil, 0}, {puzzle(2, 1, false, "-a-- -A--"), nil, nil, 0},
		{puzzle(2, 1, true, "a--- ---A"), nil, nil, 0}, {puzzle(2, 1, true, "--a- ---A"), nil, nil, 0},
		{puzzle(1, 2, true, "a--- ---A"), []api.Lay{{Piece: 1, Turn: 3}, {Piece: 0}}, nil, 1},
		{puzzle(1, 2, false, "--a- A---"), lays(0, 1), nil, 1},
		// What lies in two ways.
		{puzzle(3, 1, true, "-A-- -a-a ---A"), lays(0, 1, 2), []api.Lay{{Piece: 0}, {Piece: 1, Turn: 2}, {Piece: 2}}, 2},
		{puzzle(3, 1, true, "-a-a -A-- ---A"), lays(1, 0, 2), []api.Lay{{Piece: 2, Turn: 2}, {Piece: 0}, {Piece: 1, Turn: 2}}, 2},
		{pinwheel(), []api.Lay{{Piece: 0}, {Piece: 1, Turn: 1}, {Piece: 2, Turn: 3}, {Piece: 3, Turn: 2}}, []api.Lay{{Piece: 0}, {Piece: 1, Turn: 1}, {Piece: 3, Turn: 3}, {Piece: 2, Turn: 2}}, 6},
		{puzzle(2, 2, false, "-aA- -aA- -aA- -aA-"), nil, nil, 0},
		// The rim must be flat, on each of its sides; flat sides never meet.
		{puzzle(2, 1, false, "aa-- ---A"), nil, nil, 0}, {puzzle(2, 1, false, "-aA- ---A"), nil, nil, 0}, {puzzle(2, 1, false, "-a-a ---A"), nil, nil, 0},
		{puzzle(2, 1, false, "-a-- -A-A"), nil, nil, 0}, {puzzle(2, 1, false, "---- ----"), nil, nil, 0}, {puzzle(2, 1, false, "-a-- ----"), nil, nil, 0},
		{puzzle(2, 1, false, "-a-- ---B"), nil, nil, 0}, {puzzle(2, 1, false, "-a-- ---a"), nil, nil, 0},
		// What may meet does, as far as solutions go.
		{puzzle(2, 1, false, "-p-- ---A"), lays(0, 1), nil, 1},
		// The same pieces, one way or the other way.
		{puzzle(2, 2, false, "-aa- --aA Ap-- A--A"), lays(0, 1, 2, 3), nil, 1},
		{puzzle(4, 1, false, "-aa- --aA Ap-- A--A"), nil, nil, 0}, {puzzle(1, 4, true, "-aa- --aA Ap-- A--A"), nil, nil, 0},
	} {
		e := api.OK
		if c.many == 0 {
			e = api.ErrNone
		}
		if l, m, n, f := solve.Solve(c.z); !slices.Equal(l, c.first) || !slices.Equal(m, c.second) || n != c.many || f != e {
			t.Errorf("%d: Solve = %v, %v, %d, error %d", i, l, m, n, f)
		}
	}
}

// path returns a puzzle of one row whose n pieces have these tabs to the right, and these holes to the left.
func path(tabs, holes []int) api.Puzzle {
	n := len(tabs)
	z := puzzle(n, 1, false, strings.Repeat("-a-A ", n))
	for i := range n {
		z.Pieces[i].Edges[1].Wide = span(tabs[i], tabs[i])
		z.Pieces[i].Edges[3].Wide = span(holes[i], holes[i])
	}
	z.Pieces[0].Edges[3], z.Pieces[n-1].Edges[1] = api.Edge{}, api.Edge{}
	return z
}

// P3.2: about MaxSolutions, and far beyond it.
func TestMaxSolutions(t *testing.T) {
	for _, c := range []struct {
		z   api.Puzzle
		all int
	}{
		{row(2), 1}, {row(3), 1}, {row(4), 2}, {row(5), 6}, {row(6), 24}, {row(7), 120}, {row(8), 720}, {row(9), 5040},
		// One less than MaxSolutions, just as many, and one more.
		{path([]int{510, 500, 530, 500, 520, 530, 520, 510, 520}, []int{535, 515, 535, 525, 545, 525, 535, 515, 545}), 99},
		{path([]int{530, 500, 520, 510, 510, 530, 530, 510, 530}, []int{535, 545, 515, 515, 535, 525, 535, 515, 545}), 100},
		{path([]int{530, 550, 555, 555, 545, 525, 505, 525, 520}, []int{555, 555, 560, 545, 550, 555, 560, 565, 520}), 101},
		{puzzle(9, 1, true, "-a-- "+strings.Repeat("-A-A -a-a ", 3)+"-A-A ---a"), 18432},
	} {
		if n := len(slowSolutions(c.z)); n != c.all {
			t.Fatalf("there are %d solutions, not %d", n, c.all)
		}
		l, m, n, e := solve.Solve(c.z)
		if n != min(c.all, 100) || e != api.OK || !isSolution(c.z, l) || (len(m) > 0) != (c.all > 1) || len(m) > 0 && !isSolution(c.z, m) {
			t.Errorf("Solve = %v, %v, %d, error %d, not %d", l, m, n, e, c.all)
		}
	}
	l, m, _, _ := solve.Solve(row(9))
	if !slices.Equal(l, lays(0, 1, 2, 3, 4, 5, 6, 7, 8)) || !slices.Equal(m, lays(0, 1, 2, 3, 4, 5, 7, 6, 8)) {
		t.Errorf("Solve of a row = %v, %v", l, m)
	}
}

// P3.3.
func TestFalse(t *testing.T) {
	for i, c := range []struct {
		z    api.Puzzle
		want string
	}{
		{puzzleS(), "0.1-3.3"},
		{puzzleQ(), "0.1-2.0 0.1-3.0 0.1-3.3 0.2-1.3 0.2-3.0 0.2-3.3 1.2-2.0 1.2-3.3 1.3-2.1 2.1-3.0"},
		{puzzle(1, 1, false, "----"), ""},
		// In a puzzle without a solution all joins are false.
		{puzzle(2, 1, false, "a--- A---"), "0.0-1.0"}, {puzzle(2, 1, false, "aa-- ---A"), "0.0-1.3 0.1-1.3"},
		{puzzle(2, 1, false, "---- ----"), ""}, {puzzle(1, 1, false, "aA--"), ""},
		{puzzle(2, 1, true, "-a-- ---A"), ""},
		{pinwheel(), ""},
		// A join of the second solution alone is not false.
		{puzzle(3, 1, true, "-A-- -a-a ---A"), ""},
		{puzzle(3, 1, false, "-A-- -a-a ---A"), "0.1-1.1 1.3-2.3"},
		// What fits, but only beyond the rim.
		{puzzle(2, 1, true, "-a-- -B-A"), "0.1-1.3"},
	} {
		if l, e := solve.False(c.z); !slices.Equal(l, joins(c.want)) || e != api.OK {
			t.Errorf("%d: False = %v, error %d", i, l, e)
		}
	}
}

// P3.4.
func TestWhere(t *testing.T) {
	for i, c := range []struct {
		z     api.Puzzle
		cells []int
		e     api.Errno
	}{
		{puzzleS(), []int{1, 6, 6, 8}, api.OK}, {puzzleQ(), []int{1, 2, 4, 8}, api.OK},
		{puzzle(1, 1, true, "----"), []int{1}, api.OK}, {puzzle(1, 1, true, "---a"), []int{0}, api.ErrNone},
		{pinwheel(), []int{1, 14, 14, 14}, api.OK}, {puzzle(2, 1, false, "---A -a--"), []int{2, 1}, api.OK},
		{puzzle(3, 1, true, "-a-a -A-- ---A"), []int{2, 5, 5}, api.OK},
		{puzzle(2, 1, false, "---- ----"), []int{0, 0}, api.ErrNone},
		// All solutions count, not only the first MaxSolutions ones.
		{row(9), []int{1, 254, 254, 254, 254, 254, 254, 254, 256}, api.OK},
	} {
		for piece, want := range c.cells {
			if cells, e := solve.Where(c.z, piece); cells != want || e != c.e {
				t.Errorf("%d: Where of %d = %b, error %d", i, piece, cells, e)
			}
		}
		for _, piece := range []int{-1, len(c.cells), 9, 64, math.MinInt, math.MaxInt} {
			if cells, e := solve.Where(c.z, piece); cells != 0 || e != api.ErrRange {
				t.Errorf("%d: Where of %d = %b, error %d", i, piece, cells, e)
			}
		}
	}
}

// put returns a piece that is put into a cell without being turned.
func put(piece, cell int) api.Put { return api.Put{Cell: cell, Lay: api.Lay{Piece: piece}} }

func turnedPut(piece, turn, cell int) api.Put {
	return api.Put{Cell: cell, Lay: api.Lay{Piece: piece, Turn: turn}}
}

// P3.5: what can still be completed, and from where on it no longer can.
func TestStuck(t *testing.T) {
	none := puzzle(2, 1, true, "---- ----")
	for i, c := range []struct {
		z    api.Puzzle
		l    []api.Put
		want int
		e    api.Errno
	}{
		{puzzleS(), []api.Put{put(0, 0), put(2, 1)}, 2, api.OK},
		{puzzleS(), []api.Put{put(0, 0), put(3, 2), put(1, 1)}, 1, api.OK},
		{puzzleS(), nil, 0, api.OK}, {puzzleS(), []api.Put{}, 0, api.OK},
		{puzzleS(), []api.Put{put(1, 0)}, 0, api.OK}, {puzzleS(), []api.Put{put(0, 1), put(1, 0)}, 0, api.OK},
		{puzzleS(), []api.Put{put(3, 3), put(2, 1), put(1, 2), put(0, 0)}, 4, api.OK},
		// Each piece alone can lie there, but not both.
		{puzzleS(), []api.Put{put(3, 3), put(1, 1), put(2, 2)}, 3, api.OK},
		{row(5), []api.Put{put(1, 3), put(2, 2), put(3, 1)}, 3, api.OK},
		{puzzle(3, 1, true, "-a-a -A-- ---A"), []api.Put{put(1, 0), put(2, 2)}, 2, api.OK},
		{puzzle(3, 1, true, "-a-a -A-- ---A"), []api.Put{put(1, 0), turnedPut(2, 2, 2)}, 1, api.OK},
		{puzzle(3, 1, true, "-a-a -A-- ---A"), []api.Put{turnedPut(2, 2, 0), put(0, 1), turnedPut(1, 2, 2)}, 3, api.OK},
		{puzzle(3, 1, true, "-a-a -A-- ---A"), []api.Put{turnedPut(2, 2, 0), put(0, 1), put(1, 2)}, 2, api.OK},
		{puzzle(3, 1, true, "-a-a -A-- ---A"), []api.Put{turnedPut(2, 1, 0)}, 0, api.OK},
		// The last ones could be completed without the first one.
		{puzzleS(), []api.Put{put(3, 0), put(0, 3), put(1, 1), put(2, 2)}, 0, api.OK},
		{pinwheel(), []api.Put{turnedPut(3, 1, 1), turnedPut(1, 2, 3)}, 2, api.OK},
		{pinwheel(), []api.Put{turnedPut(3, 1, 1), turnedPut(1, 2, 2)}, 1, api.OK},
		{puzzle(1, 1, true, "----"), []api.Put{put(0, 0)}, 1, api.OK}, {puzzle(1, 1, true, "----"), nil, 0, api.OK},
		{row(9), []api.Put{put(7, 1), put(6, 2), put(5, 3), put(4, 4), put(3, 5), put(2, 6), put(1, 7), put(0, 0), put(8, 8)}, 9, api.OK},
		{row(9), []api.Put{put(7, 1), put(6, 2), put(5, 3), put(4, 4), put(3, 5), put(2, 6), put(8, 7), put(0, 0), put(1, 8)}, 6, api.OK},
		// No solution.
		{none, nil, 0, api.ErrNone}, {none, []api.Put{put(0, 0)}, 0, api.ErrNone},
		{none, []api.Put{put(0, 0), turnedPut(1, 3, 1)}, 0, api.ErrNone},
	} {
		if n, e := solve.Stuck(c.z, c.l); n != c.want || e != c.e {
			t.Errorf("%d: Stuck = %d, error %d", i, n, e)
		}
	}
}

// P3.5: errors, in their order.
func TestPutsThatAreNone(t *testing.T) {
	many := func(n int, p api.Put) []api.Put { return slices.Repeat([]api.Put{p}, n) }
	for _, z := range []api.Puzzle{puzzleS(), puzzle(4, 1, false, "---- ---- ---- ----"), puzzle(2, 2, false, "-aa- --aA Ap-- A--A")} {
		for i, c := range []struct {
			l []api.Put
			e api.Errno
		}{
			{[]api.Put{put(0, -1)}, api.ErrRange}, {[]api.Put{put(0, 4)}, api.ErrRange}, {[]api.Put{put(-1, 0)}, api.ErrRange}, {[]api.Put{put(4, 0)}, api.ErrRange},
			{[]api.Put{put(0, math.MinInt)}, api.ErrRange}, {[]api.Put{put(math.MaxInt, 0)}, api.ErrRange},
			{[]api.Put{turnedPut(1, 1, 1)}, api.ErrRange}, {[]api.Put{turnedPut(0, 2, 0)}, api.ErrRange}, {[]api.Put{turnedPut(1, -1, 1)}, api.ErrRange},
			{[]api.Put{turnedPut(1, 4, 1)}, api.ErrRange},
			{[]api.Put{put(0, 0), put(0, 0)}, api.ErrTwice}, {[]api.Put{put(0, 0), put(0, 1)}, api.ErrTwice}, {[]api.Put{put(0, 0), put(1, 0)}, api.ErrTwice},
			{[]api.Put{put(0, 0), put(1, 1), put(2, 2), put(0, 3)}, api.ErrTwice}, {[]api.Put{put(3, 0), put(1, 1), put(2, 2), put(0, 0)}, api.ErrTwice},
			// The first put with an error decides.
			{[]api.Put{put(0, 0), put(0, 1), put(0, 9)}, api.ErrTwice}, {[]api.Put{put(0, 0), put(0, 9), put(0, 1)}, api.ErrRange},
			{[]api.Put{put(0, 9), put(0, 9)}, api.ErrRange}, {[]api.Put{put(0, 0), turnedPut(0, 1, 0)}, api.ErrRange},
			// Twenty, and more.
			{many(20, put(0, 0)), api.ErrTwice}, {many(20, put(0, -1)), api.ErrRange}, {many(21, put(0, 0)), api.ErrLong}, {many(21, put(0, -1)), api.ErrLong},
			{many(1000, turnedPut(9, 9, 9)), api.ErrLong}, {append([]api.Put{put(0, -1)}, many(20, put(0, 0))...), api.ErrLong},
		} {
			if n, e := solve.Stuck(z, c.l); n != 0 || e != c.e {
				t.Errorf("%d: Stuck = %d, error %d", i, n, e)
			}
		}
	}
	// In a puzzle that can be turned the piece 0 cannot.
	for turn := -2; turn < 7; turn++ {
		for piece := range 4 {
			want := api.ErrRange
			if turn == 0 || piece > 0 && turn > 0 && turn < 4 {
				want = api.OK
			}
			if _, e := solve.Stuck(pinwheel(), []api.Put{turnedPut(piece, turn, piece)}); e != want {
				t.Errorf("Stuck of %d turned by %d has the error %d", piece, turn, e)
			}
		}
	}
}

// P3.6.
func TestTwins(t *testing.T) {
	for i, c := range []struct {
		z    api.Puzzle
		want [][2]int
	}{
		{puzzleS(), [][2]int{{1, 2}}}, {puzzleQ(), nil},
		{puzzle(1, 1, false, "----"), nil}, {puzzle(2, 1, false, "---- ----"), nil}, {puzzle(2, 1, true, "-a-- ---A"), nil},
		// Pieces that are alike, but do not lie in a solution.
		{puzzle(4, 1, false, "-a-- -a-A -a-A ---B"), nil},
		// The piece 0 changes places only with one that is not turned.
		{puzzle(4, 1, false, "-a-A -a-- -a-A ---A"), [][2]int{{0, 2}}}, {puzzle(4, 1, true, "-a-A -a-- -a-A ---A"), [][2]int{{0, 2}}},
		{pinwheel(), [][2]int{{1, 2}, {1, 3}, {2, 3}}},
		// Turned as the other one was these ends would not lie on the rim.
		{puzzle(3, 1, true, "-a-a -A-- ---A"), nil}, {puzzle(3, 1, true, "-a-a -A-- -A--"), [][2]int{{1, 2}}},
		// Alike, if one of them is turned.
		{puzzle(5, 1, true, "-A-- -a-a -A-A a-a- ---A"), nil},
		{puzzle(5, 1, true, "-A-- -a-a -A-A -a-a ---A"), [][2]int{{1, 3}}},
		{row(6), [][2]int{{1, 2}, {1, 3}, {1, 4}, {2, 3}, {2, 4}, {3, 4}}},
		// Three pieces that change places all at once, but no two of them.
		{path([]int{500, 500, 540, 500, 520}, []int{515, 515, 515, 540, 515}), nil},
	} {
		if l, e := solve.Twins(c.z); !slices.Equal(l, c.want) || e != api.OK {
			t.Errorf("%d: Twins = %v, error %d", i, l, e)
		}
	}
	l, e := solve.Twins(row(9))
	if len(l) != 21 || e != api.OK || l[0] != [2]int{1, 2} || l[20] != [2]int{6, 7} {
		t.Errorf("Twins of a row = %v, error %d", l, e)
	}
}

// What is not valid comes before all other errors.
func TestPuzzlesThatAreNone(t *testing.T) {
	for i, z := range badPuzzles() {
		name := strconv.Itoa(i)
		if sure, may, e := solve.Joins(z); len(sure)+len(may) > 0 || e != api.ErrArg {
			t.Error(name, "Joins", sure, may, e)
		}
		if first, second, many, e := solve.Solve(z); len(first)+len(second)+many > 0 || e != api.ErrArg {
			t.Error(name, "Solve", first, second, many, e)
		}
		if l, e := solve.False(z); len(l) > 0 || e != api.ErrArg {
			t.Error(name, "False", l, e)
		}
		for _, piece := range []int{0, -1, 10} {
			if cells, e := solve.Where(z, piece); cells != 0 || e != api.ErrArg {
				t.Error(name, "Where", cells, e)
			}
		}
		for _, l := range [][]api.Put{nil, {put(0, 0)}, {put(0, -1)}, make([]api.Put, 50)} {
			if n, e := solve.Stuck(z, l); n != 0 || e != api.ErrArg {
				t.Error(name, "Stuck", n, e)
			}
		}
		if l, e := solve.Twins(z); len(l) > 0 || e != api.ErrArg {
			t.Error(name, "Twins", l, e)
		}
	}
}

// A flat side has nothing else that is looked at.
func TestFlatSidesWithOddNumbers(t *testing.T) {
	z := puzzleS()
	for i := range z.Pieces {
		for s := range 4 {
			if z.Pieces[i].Edges[s].Kind == api.EdgeFlat {
				z.Pieces[i].Edges[s] = api.Edge{At: span(5, -5), Wide: span(math.MaxInt, math.MinInt), Deep: span(math.MinInt, math.MaxInt)}
			}
		}
	}
	first, second, many, e := solve.Solve(z)
	if !slices.Equal(first, lays(0, 1, 2, 3)) || !slices.Equal(second, lays(0, 2, 1, 3)) || many != 2 || e != api.OK {
		t.Errorf("Solve = %v, %v, %d, error %d", first, second, many, e)
	}
}
