package cut_test

import (
	"math"
	"slices"
	"testing"

	"jigworks/api"
	"jigworks/cut"
)

// long returns so many zeros.
func long(n int) []int { return make([]int, n) }

// badCuts returns cuts that are none, or not good, with what Check returns of them.
func badCuts() []struct {
	name  string
	c     api.Cut
	piece int
	e     api.Errno
} {
	return []struct {
		name  string
		c     api.Cut
		piece int
		e     api.Errno
	}{
		{"empty", api.Cut{}, 0, api.ErrArg},
		{"too wide", rows(13, long(13)...), 0, api.ErrArg},
		{"too high", rows(1, long(13)...), 0, api.ErrArg},
		{"not wide", api.Cut{Wide: 0, High: 1}, 0, api.ErrArg},
		{"not high", api.Cut{Wide: 1, High: 0}, 0, api.ErrArg},
		{"both below 0", api.Cut{Wide: -1, High: -1, Piece: long(1)}, 0, api.ErrArg},
		{"product that wraps", api.Cut{Wide: 1 << 32, High: 1 << 32}, 0, api.ErrArg},
		{"greatest numbers", api.Cut{Wide: math.MaxInt, High: math.MaxInt, Piece: long(1)}, 0, api.ErrArg},
		{"least numbers", api.Cut{Wide: math.MinInt, High: math.MinInt}, 0, api.ErrArg},
		{"a cell too few", api.Cut{Wide: 2, High: 2, Piece: long(3)}, 0, api.ErrArg},
		{"a cell too many", api.Cut{Wide: 2, High: 2, Piece: long(5)}, 0, api.ErrArg},
		{"no cells", api.Cut{Wide: 2, High: 2}, 0, api.ErrArg},
		{"a piece below 0", rows(2, 0, -1), 0, api.ErrArg},
		{"a piece too great", rows(2, 0, api.MaxPieces), 0, api.ErrArg},
		{"the least piece", rows(2, 0, math.MinInt), 0, api.ErrArg},
		{"the greatest piece", rows(2, math.MaxInt, 0), 0, api.ErrArg},
		{"no piece, before a gap and parts", rows(4, 5, 0, 5, -1), 0, api.ErrArg},
		{"A with 4 4 4 4", rows(4, 0, 0, 1, 1, 0, 2, 2, 1, 4, 4, 4, 4), 3, api.ErrNone},
		{"no 0", rows(1, 1), 0, api.ErrNone},
		{"two gaps", rows(3, 0, 4, 2), 1, api.ErrNone},
		{"the greatest number, and gaps", rows(2, 0, 39), 1, api.ErrNone},
		{"a gap, and parts of a lesser piece", rows(4, 0, 1, 0, 3), 2, api.ErrNone},
		{"A with 3 2 3 3", rows(4, 0, 0, 1, 1, 0, 2, 2, 1, 3, 2, 3, 3), 3, api.ErrState},
		{"corners only", rows(2, 0, 1, 1, 0), 0, api.ErrState},
		{"one high", rows(3, 1, 0, 1), 1, api.ErrState},
		{"one wide", rows(1, 0, 1, 0), 0, api.ErrState},
		{"from a row's end to the next one", rows(3, 0, 0, 1, 1, 0, 0), 1, api.ErrState},
		{"two pieces in parts, the greater one first", rows(4, 2, 1, 2, 1, 2, 0, 0, 0), 1, api.ErrState},
	}
}

func TestCheckOfBadCuts(t *testing.T) {
	for _, c := range badCuts() {
		if n, e := cut.Check(c.c); n != c.piece || e != c.e {
			t.Errorf("%s: Check = %d, error %d", c.name, n, e)
		}
	}
}

// The other functions have the error of Check before their own, and nothing beside it.
func TestErrorsOfCheckComeFirst(t *testing.T) {
	for _, c := range badCuts() {
		if l, e := cut.Sides(c.c, -5); len(l) > 0 || e != c.e {
			t.Errorf("%s: Sides = %v, error %d", c.name, l, e)
		}
		if l, e := cut.Lines(c.c); l != (api.Lines{}) || e != c.e {
			t.Errorf("%s: Lines = %v, error %d", c.name, l, e)
		}
		if l, e := cut.Inside(c.c, -5); len(l) > 0 || e != c.e {
			t.Errorf("%s: Inside = %v, error %d", c.name, l, e)
		}
		if x, e := cut.Join(c.c, 0, 0); x.Wide != 0 || x.High != 0 || len(x.Piece) > 0 || e != c.e {
			t.Errorf("%s: Join = %v, error %d", c.name, x, e)
		}
		if l, e := cut.Saw(c.c); len(l) > 0 || e != c.e {
			t.Errorf("%s: Saw = %v, error %d", c.name, l, e)
		}
	}
}

func TestCheckOfGoodCuts(t *testing.T) {
	for i, c := range []struct {
		c      api.Cut
		pieces int
	}{
		{cutA(), 4}, {cutB(), 4}, {cutC(), 2}, {shells(), 3}, {crossing(), 3},
		{rows(1, 0), 1}, {rows(1, 0, 1), 2}, {rows(12, long(144)...), 1},
		{bricks(2, 2), 36}, {most(), api.MaxPieces},
	} {
		if n, e := cut.Check(c.c); n != c.pieces || e != api.OK {
			t.Errorf("%d: Check = %d, error %d", i, n, e)
		}
	}
}

// All pictures of three by two cells, with some numbers, are the same to Check and to a slower way.
func TestCheckOfAllSmallPictures(t *testing.T) {
	for k := range 4096 {
		l := make([]int, 6)
		for i := range l {
			l[i] = k >> (2 * i) & 3
		}
		c := rows(3, l...)
		n, e := cut.Check(c)
		if m, f := slowCheck(c); n != m || e != f {
			t.Errorf("%v: Check = %d, error %d, not %d, error %d", l, n, e, m, f)
		}
	}
}

func TestSides(t *testing.T) {
	for i, c := range []struct {
		c     api.Cut
		piece int
		want  []api.Side
	}{
		{cutA(), 2, []api.Side{{Piece: 0, Edges: 2}, {Piece: 1, Edges: 2}, {Piece: 3, Edges: 2}}},
		{cutA(), 0, []api.Side{{Piece: api.NoPiece, Edges: 4}, {Piece: 1, Edges: 1}, {Piece: 2, Edges: 2}, {Piece: 3, Edges: 1}}},
		{cutC(), 1, []api.Side{{Piece: 0, Edges: 4}}},
		{shells(), 1, []api.Side{{Piece: 0, Edges: 12}, {Piece: 2, Edges: 4}}},
		{rows(1, 0), 0, []api.Side{{Piece: api.NoPiece, Edges: 4}}},
		{rows(1, 0, 1, 2), 1, []api.Side{{Piece: api.NoPiece, Edges: 2}, {Piece: 0, Edges: 1}, {Piece: 2, Edges: 1}}},
		{rows(3, 0, 1, 2), 0, []api.Side{{Piece: api.NoPiece, Edges: 3}, {Piece: 1, Edges: 1}}},
		{rows(2, 0, 1, 2, 3), 0, []api.Side{{Piece: api.NoPiece, Edges: 2}, {Piece: 1, Edges: 1}, {Piece: 2, Edges: 1}}},
		{rows(12, long(144)...), 0, []api.Side{{Piece: api.NoPiece, Edges: 48}}},
	} {
		if l, e := cut.Sides(c.c, c.piece); !slices.Equal(l, c.want) || e != api.OK {
			t.Errorf("%d: Sides = %v, error %d", i, l, e)
		}
	}
}

func TestNumbersThatAreNoPieces(t *testing.T) {
	for _, piece := range []int{-1, -2, 4, api.MaxPieces, math.MinInt, math.MaxInt} {
		if l, e := cut.Sides(cutA(), piece); len(l) > 0 || e != api.ErrRange {
			t.Errorf("Sides of %d = %v, error %d", piece, l, e)
		}
		if l, e := cut.Inside(cutA(), piece); len(l) > 0 || e != api.ErrRange {
			t.Errorf("Inside of %d = %v, error %d", piece, l, e)
		}
		for _, x := range [][2]int{{piece, 0}, {0, piece}, {piece, piece}} {
			if j, e := cut.Join(cutA(), x[0], x[1]); len(j.Piece) > 0 || j.Wide != 0 || j.High != 0 || e != api.ErrRange {
				t.Errorf("Join of %v = %v, error %d", x, j, e)
			}
		}
	}
}

func TestLines(t *testing.T) {
	for i, c := range []struct {
		c    api.Cut
		want api.Lines
	}{
		{cutA(), api.Lines{Length: 9, Bends: 2, Joints: 3, Starts: 3}},
		{cutB(), api.Lines{Length: 5, Bends: 0, Joints: 2, Starts: 4}},
		{cutC(), api.Lines{Length: 4, Bends: 4}},
		{shells(), api.Lines{Length: 16, Bends: 8}},
		// A line across, a line upright, and one that turns at the middle.
		{rows(2, 0, 0, 1, 1), api.Lines{Length: 2, Starts: 2}},
		{rows(2, 0, 1, 0, 1), api.Lines{Length: 2, Starts: 2}},
		{rows(2, 0, 0, 0, 1), api.Lines{Length: 2, Bends: 1, Starts: 2}},
		// Points with three and with four edges.
		{rows(2, 0, 0, 1, 2), api.Lines{Length: 3, Joints: 1, Starts: 3}},
		{rows(2, 0, 1, 2, 3), api.Lines{Length: 4, Joints: 1, Starts: 4}},
		{crossing(), api.Lines{Length: 7, Bends: 3, Joints: 1, Starts: 2}},
		// Pictures that are one cell wide, or high: each line starts on both sides.
		{rows(1, 0), api.Lines{}},
		{rows(1, 0, 0, 0), api.Lines{}},
		{rows(1, 0, 1, 2), api.Lines{Length: 2, Starts: 4}},
		{rows(3, 0, 1, 2), api.Lines{Length: 2, Starts: 4}},
		{rows(3, 0, 0, 1), api.Lines{Length: 1, Starts: 2}},
		{rows(12, long(144)...), api.Lines{}},
		{bricks(2, 2), api.Lines{Length: 120, Joints: 25, Starts: 20}},
	} {
		if l, e := cut.Lines(c.c); l != c.want || e != api.OK {
			t.Errorf("%d: Lines = %v, error %d", i, l, e)
		}
	}
}

func TestInside(t *testing.T) {
	for i, c := range []struct {
		c     api.Cut
		piece int
		want  []int
	}{
		{cutC(), 0, []int{1}}, {cutC(), 1, nil},
		{shells(), 0, []int{1, 2}}, {shells(), 1, []int{2}}, {shells(), 2, nil},
		{cutA(), 0, nil}, {cutA(), 3, nil},
		// Two pieces within another one, apart from one another; and numbers that do not come in the order of the cells.
		{rows(5, 2, 2, 2, 2, 2, 2, 1, 2, 0, 2, 2, 2, 2, 2, 2), 2, []int{0, 1}},
		// Neither piece 1 nor 2 is on the border, but one of them reaches it past the other one.
		{rows(4, 0, 0, 0, 0, 0, 1, 2, 3, 0, 0, 0, 0), 0, nil},
		{rows(4, 0, 0, 0, 0, 0, 1, 2, 3, 0, 0, 0, 0), 3, nil},
		// The piece 1 is between two others, and within neither.
		{rows(3, 0, 0, 0, 0, 1, 2, 2, 2, 2), 0, nil},
		{rows(3, 0, 0, 0, 0, 1, 2, 2, 2, 2), 2, nil},
		// The piece 1 meets the piece 2, which is on the border, at a corner only.
		{crossing(), 0, []int{1}},
		// A picture that is one cell wide: all pieces are on the border, on both sides.
		{rows(1, 0, 1, 2), 1, nil},
		{rows(1, 0), 0, nil},
	} {
		if l, e := cut.Inside(c.c, c.piece); !slices.Equal(l, c.want) || e != api.OK {
			t.Errorf("%d: Inside = %v, error %d", i, l, e)
		}
	}
}

func TestJoin(t *testing.T) {
	for i, c := range []struct {
		c    api.Cut
		a, b int
		want []int
		e    api.Errno
	}{
		{cutA(), 3, 1, []int{0, 0, 1, 1, 0, 2, 2, 1, 1, 1, 1, 1}, api.OK},
		{cutA(), 1, 3, []int{0, 0, 1, 1, 0, 2, 2, 1, 1, 1, 1, 1}, api.OK},
		{cutA(), 0, 2, []int{0, 0, 1, 1, 0, 0, 0, 1, 2, 2, 2, 2}, api.OK},
		{cutC(), 0, 1, long(9), api.OK},
		{rows(1, 0, 2, 1), 0, 2, []int{0, 0, 1}, api.OK},
		{rows(1, 0, 2, 1), 1, 2, []int{0, 1, 1}, api.OK},
		{rows(1, 0, 1, 2), 0, 2, nil, api.ErrState},
		{rows(1, 0, 1, 2), 2, 0, nil, api.ErrState},
		{rows(2, 0, 1, 2, 3), 0, 3, nil, api.ErrState},
		{crossing(), 1, 2, nil, api.ErrState},
		{cutA(), 2, 2, nil, api.ErrRange},
		{rows(1, 0), 0, 0, nil, api.ErrRange},
		{rows(1, 0), 0, 1, nil, api.ErrRange},
	} {
		x, e := cut.Join(c.c, c.a, c.b)
		if e != c.e || !slices.Equal(x.Piece, c.want) {
			t.Errorf("%d: Join = %v, error %d", i, x, e)
		}
		size := api.Cut{Wide: c.c.Wide, High: c.c.High}
		if e != api.OK {
			size = api.Cut{}
		}
		if x.Wide != size.Wide || x.High != size.High {
			t.Errorf("%d: Join is %d wide and %d high", i, x.Wide, x.High)
		}
	}
}

func across(at, from, to int) api.Line { return api.Line{At: at, From: from, To: to} }

func upright(at, from, to int) api.Line {
	return api.Line{Upright: true, At: at, From: from, To: to}
}

func TestSaw(t *testing.T) {
	for i, c := range []struct {
		c    api.Cut
		want []api.Line
		e    api.Errno
	}{
		{cutB(), []api.Line{upright(2, 0, 2), across(1, 0, 2), upright(1, 1, 2)}, api.OK},
		{cutA(), nil, api.ErrRefuse},
		{cutC(), nil, api.ErrRefuse},
		{rows(1, 0), nil, api.OK},
		{rows(12, long(144)...), nil, api.OK},
		{rows(1, 0, 1, 1, 2), []api.Line{across(1, 0, 1), across(3, 0, 1)}, api.OK},
		{rows(4, 0, 1, 1, 2), []api.Line{upright(1, 0, 1), upright(3, 0, 1)}, api.OK},
		// Lines across come before upright ones.
		{rows(2, 0, 1, 2, 3), []api.Line{across(1, 0, 2), upright(1, 0, 1), upright(1, 1, 2)}, api.OK},
		// Places are counted in the picture, not in the part.
		{rows(3, 0, 0, 0, 1, 2, 2, 1, 3, 4), []api.Line{across(1, 0, 3), upright(1, 1, 3), across(2, 1, 3), upright(2, 2, 3)}, api.OK},
		// No line goes through, though each piece is a rectangle.
		{rows(3, 0, 0, 1, 2, 4, 1, 2, 3, 3), nil, api.ErrRefuse},
		// The first part can be sawn, the other one cannot, and the other way round.
		{rows(2, 0, 1, 2, 2, 2, 3), nil, api.ErrRefuse},
		{rows(2, 0, 0, 0, 1, 2, 3), nil, api.ErrRefuse},
		// A piece that is no rectangle, alone in a part with one that is.
		{rows(2, 0, 0, 0, 1), nil, api.ErrRefuse},
	} {
		if l, e := cut.Saw(c.c); !slices.Equal(l, c.want) || e != c.e {
			t.Errorf("%d: Saw = %v, error %d", i, l, e)
		}
	}
}
