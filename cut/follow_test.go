package cut_test

import (
	"maps"
	"math"
	"slices"
	"testing"

	"jigworks/api"
	"jigworks/cut"
)

// sidesOf returns what each two pieces have in common, as Sides says it.
func sidesOf(t *testing.T, c api.Cut) map[[2]int]int {
	t.Helper()
	edges := map[[2]int]int{}
	for piece := range slices.Max(c.Piece) + 1 {
		l, e := cut.Sides(c, piece)
		if e != api.OK {
			t.Fatalf("%v: Sides of %d has the error %d", c, piece, e)
		}
		if !slices.IsSortedFunc(l, func(a, b api.Side) int { return a.Piece - b.Piece }) {
			t.Errorf("%v: Sides of %d = %v is not in order", c, piece, l)
		}
		for _, s := range l {
			edges[[2]int{piece, s.Piece}] += s.Edges
		}
	}
	return edges
}

// P1.8, P2: pieces cover the picture once, and are neighbours both ways.
func TestPiecesCoverThePicture(t *testing.T) {
	for _, c := range goodCuts() {
		lines, _ := cut.Lines(c)
		edges := sidesOf(t, c)
		slow := common(c)
		for k, n := range slow {
			if n == 0 || k[0] == k[1] {
				delete(slow, k)
			}
		}
		if !maps.Equal(edges, slow) {
			t.Errorf("%v: the edges in common are %v, not %v", c, edges, slow)
		}
		inner, outer := 0, 0
		for k, n := range edges {
			if k[1] == api.NoPiece {
				outer += n
				continue
			}
			inner += n
			if edges[[2]int{k[1], k[0]}] != n {
				t.Errorf("%v: %v are not neighbours both ways", c, k)
			}
		}
		if inner != 2*lines.Length || outer != 2*(c.Wide+c.High) {
			t.Errorf("%v: %d edges within, %d on the border; lines %v", c, inner, outer, lines)
		}
	}
}

// network is what the lines and the border are made of: points, edges between them, and parts.
func network(c api.Cut) (points, edges, parts int) {
	at := func(x, y int) int {
		if x < 0 || y < 0 || x >= c.Wide || y >= c.High {
			return api.NoPiece
		}
		return c.Piece[y*c.Wide+x]
	}
	group := map[[2]int][2]int{}
	var root func(p [2]int) [2]int
	root = func(p [2]int) [2]int {
		if q, ok := group[p]; ok && q != p {
			return root(q)
		}
		return p
	}
	tie := func(p, q [2]int) {
		edges++
		for _, x := range [][2]int{p, q} {
			if _, ok := group[x]; !ok {
				group[x] = x
			}
		}
		group[root(p)] = root(q)
	}
	for y := range c.High + 1 {
		for x := range c.Wide + 1 {
			if at(x, y) != at(x-1, y) {
				tie([2]int{x, y}, [2]int{x, y + 1})
			}
			if at(x, y) != at(x, y-1) {
				tie([2]int{x, y}, [2]int{x + 1, y})
			}
		}
	}
	for p := range group {
		if root(p) == p {
			parts++
		}
	}
	return len(group), edges, parts
}

// P1.8: the number of pieces follows as Euler says, and the lines have the bends, joints and starts that their points have.
func TestPiecesAsEulerSays(t *testing.T) {
	for _, c := range goodCuts() {
		points, edges, parts := network(c)
		lines, _ := cut.Lines(c)
		n, e := cut.Check(c)
		if e != api.OK || n != edges-points+parts {
			t.Errorf("%v: Check = %d, error %d; %d points, %d edges, %d parts", c, n, e, points, edges, parts)
		}
		if edges != lines.Length+2*(c.Wide+c.High) {
			t.Errorf("%v: %d edges in all, lines %v", c, edges, lines)
		}
		if want := slowPoints(c); lines != want {
			t.Errorf("%v: Lines = %v, not %v", c, lines, want)
		}
	}
}

// slowPoints looks at each edge between two cells, and counts the ends that its lines have at each point.
func slowPoints(c api.Cut) api.Lines {
	var l api.Lines
	upright, flat := map[[2]int]int{}, map[[2]int]int{}
	for i, a := range c.Piece {
		x, y := i%c.Wide, i/c.Wide
		if x+1 < c.Wide && c.Piece[i+1] != a {
			l.Length++
			upright[[2]int{x + 1, y}]++
			upright[[2]int{x + 1, y + 1}]++
		}
		if y+1 < c.High && c.Piece[i+c.Wide] != a {
			l.Length++
			flat[[2]int{x, y + 1}]++
			flat[[2]int{x + 1, y + 1}]++
		}
	}
	for y := range c.High + 1 {
		for x := range c.Wide + 1 {
			p := [2]int{x, y}
			within := x > 0 && y > 0 && x < c.Wide && y < c.High
			if !within {
				l.Starts += upright[p] + flat[p]
			} else if upright[p]+flat[p] > 2 {
				l.Joints++
			} else if upright[p] == 1 && flat[p] == 1 {
				l.Bends++
			}
		}
	}
	return l
}

// slowInside returns the pieces that are not left when all that is joined to the border is taken away, again and again.
func slowInside(c api.Cut, piece int) []int {
	edges := common(c)
	n := slices.Max(c.Piece) + 1
	out := make([]bool, n)
	for range n {
		for a := range n {
			free := edges[[2]int{a, api.NoPiece}] > 0
			for b := range n {
				free = free || out[b] && edges[[2]int{a, b}] > 0
			}
			out[a] = out[a] || free && a != piece
		}
	}
	var l []int
	for a := range n {
		if a != piece && !out[a] {
			l = append(l, a)
		}
	}
	return l
}

// P1.4: of each piece of each cut.
func TestInsideOfAllPieces(t *testing.T) {
	for _, c := range goodCuts() {
		for piece := range slices.Max(c.Piece) + 1 {
			l, e := cut.Inside(c, piece)
			if want := slowInside(c, piece); !slices.Equal(l, want) || e != api.OK {
				t.Errorf("%v: Inside of %d = %v, error %d, not %v", c, piece, l, e, want)
			}
		}
	}
}

// P1.8, P13: in a picture that is turned over nothing changes but places.
func TestPicturesThatAreTurned(t *testing.T) {
	for _, c := range goodCuts() {
		n, _ := cut.Check(c)
		lines, _ := cut.Lines(c)
		sawn, refused := cut.Saw(c)
		for i, d := range turns(c) {
			if m, e := cut.Check(d); m != n || e != api.OK {
				t.Errorf("%v, turn %d: Check = %d, error %d", c, i, m, e)
			}
			if l, e := cut.Lines(d); l != lines || e != api.OK {
				t.Errorf("%v, turn %d: Lines = %v, error %d", c, i, l, e)
			}
			if l, e := cut.Saw(d); len(l) != len(sawn) || e != refused {
				t.Errorf("%v, turn %d: Saw = %v, error %d", c, i, l, e)
			}
			for piece := range n {
				was, _ := cut.Sides(c, piece)
				if l, e := cut.Sides(d, piece); !slices.Equal(l, was) || e != api.OK {
					t.Errorf("%v, turn %d: Sides of %d = %v, error %d", c, i, piece, l, e)
				}
				within, _ := cut.Inside(c, piece)
				if l, e := cut.Inside(d, piece); !slices.Equal(l, within) || e != api.OK {
					t.Errorf("%v, turn %d: Inside of %d = %v, error %d", c, i, piece, l, e)
				}
			}
		}
	}
}

// number returns which number a piece has when a and b are joined.
func number(piece, a, b int) int {
	if piece == max(a, b) {
		return min(a, b)
	}
	if piece > max(a, b) {
		return piece - 1
	}
	return piece
}

// P1.8: when neighbours are joined, only what they had in common goes.
func TestNeighboursThatAreJoined(t *testing.T) {
	for _, c := range goodCuts() {
		n, _ := cut.Check(c)
		lines, _ := cut.Lines(c)
		edges := common(c)
		for a := range n {
			for b := range n {
				d, e := cut.Join(c, a, b)
				between := edges[[2]int{a, b}]
				if a == b {
					if e != api.ErrRange {
						t.Errorf("%v: Join of %d with itself has the error %d", c, a, e)
					}
					continue
				}
				if between == 0 {
					if e != api.ErrState || d.Piece != nil {
						t.Errorf("%v: Join of %d and %d = %v, error %d", c, a, b, d, e)
					}
					continue
				}
				m, f := cut.Check(d)
				l, _ := cut.Lines(d)
				if e != api.OK || f != api.OK || m != n-1 || l.Length != lines.Length-between {
					t.Fatalf("%v: Join of %d and %d = %v, error %d; %d pieces, lines %v", c, a, b, d, e, m, l)
				}
				want := map[[2]int]int{}
				for k, many := range edges {
					k = [2]int{number(k[0], a, b), number(k[1], a, b)}
					if k[0] != k[1] && many > 0 {
						want[k] += many
					}
				}
				if len(d.Piece) != len(c.Piece) || d.Wide != c.Wide || d.High != c.High {
					t.Fatalf("%v: Join of %d and %d = %v", c, a, b, d)
				}
				if got := sidesOf(t, d); !maps.Equal(got, want) {
					t.Errorf("%v: when %d and %d are joined, the edges in common are %v, not %v", c, a, b, got, want)
				}
			}
			if len(c.Piece) > 100 && a > 4 {
				break
			}
		}
	}
}

// P13: in which order pieces are named and joined makes no difference.
func TestOrderOfJoining(t *testing.T) {
	// The pieces 1 and 2 join, and 3 and 4; their numbers change when the others were joined first.
	c := rows(5, 0, 1, 2, 3, 4)
	first, _ := cut.Join(c, 1, 2)
	first, _ = cut.Join(first, 2, 3)
	other, _ := cut.Join(c, 4, 3)
	other, _ = cut.Join(other, 2, 1)
	if want := []int{0, 1, 1, 2, 2}; !slices.Equal(first.Piece, want) || !slices.Equal(other.Piece, want) {
		t.Errorf("%v, %v", first, other)
	}
	for _, c := range goodCuts() {
		for a := range min(4, slices.Max(c.Piece)+1) {
			for b := range a {
				x, e := cut.Join(c, a, b)
				y, f := cut.Join(c, b, a)
				if e != f || !slices.Equal(x.Piece, y.Piece) {
					t.Errorf("%v: Join of %d and %d = %v, error %d; the other way %v, error %d", c, a, b, x, e, y, f)
				}
			}
		}
	}
}

// rectangles returns whether all pieces of a cut are rectangles.
func rectangles(c api.Cut) bool {
	type box struct{ left, top, right, bottom, cells int }
	boxes := map[int]box{}
	for i, n := range c.Piece {
		x, y := i%c.Wide, i/c.Wide
		b, ok := boxes[n]
		if !ok {
			b = box{left: x, top: y}
		}
		boxes[n] = box{min(b.left, x), b.top, max(b.right, x), y, b.cells + 1}
	}
	for _, b := range boxes {
		if b.cells != (b.right-b.left+1)*(b.bottom-b.top+1) {
			return false
		}
	}
	return true
}

// firstLine returns the first line that goes through a whole picture and cuts no piece.
func firstLine(c api.Cut) (api.Line, bool) {
	for at := 1; at < c.High; at++ {
		if splits(c, false, at) {
			return across(at, 0, c.Wide), true
		}
	}
	for at := 1; at < c.Wide; at++ {
		if splits(c, true, at) {
			return upright(at, 0, c.High), true
		}
	}
	return api.Line{}, false
}

// P1.6: the first line is the first one, and behind it come those of both parts.
func TestSawLineByLine(t *testing.T) {
	for _, c := range goodCuts() {
		l, e := cut.Saw(c)
		first, any := firstLine(c)
		if slices.Max(c.Piece) == 0 || !any {
			want := api.OK
			if slices.Max(c.Piece) > 0 {
				want = api.ErrRefuse
			}
			if len(l) > 0 || e != want {
				t.Errorf("%v: Saw = %v, error %d", c, l, e)
			}
			continue
		}
		a, b := halves(c, first.Upright, first.At)
		la, ea := cut.Saw(a)
		lb, eb := cut.Saw(b)
		if ea != api.OK || eb != api.OK {
			if len(l) > 0 || e != api.ErrRefuse {
				t.Errorf("%v: Saw = %v, error %d, but a part cannot be sawn", c, l, e)
			}
			continue
		}
		want := append([]api.Line{first}, la...)
		for _, x := range lb {
			if x.Upright == first.Upright {
				x.At += first.At
			} else {
				x.From += first.At
				x.To += first.At
			}
			want = append(want, x)
		}
		if e != api.OK || !slices.Equal(l, want) {
			t.Errorf("%v: Saw = %v, error %d, not %v", c, l, e, want)
		}
	}
}

// P1.8: what is sawn is rectangles, one more than lines; and whichever line comes first, both parts can be sawn.
func TestCutsThatAreSawn(t *testing.T) {
	for _, c := range goodCuts() {
		l, e := cut.Saw(c)
		if e != api.OK {
			continue
		}
		if !rectangles(c) || len(l) != slices.Max(c.Piece) {
			t.Errorf("%v: Saw = %v", c, l)
		}
		for _, up := range []bool{false, true} {
			for at := 1; at < api.MaxSide; at++ {
				if up && at >= c.Wide || !up && at >= c.High || !splits(c, up, at) {
					continue
				}
				a, b := halves(c, up, at)
				la, ea := cut.Saw(a)
				lb, eb := cut.Saw(b)
				if ea != api.OK || eb != api.OK || len(la)+len(lb)+1 != len(l) {
					t.Errorf("%v: the parts at %d (upright %v) give %v, error %d, and %v, error %d", c, at, up, la, ea, lb, eb)
				}
			}
		}
	}
}

// P1.7, R4: an argument is not changed, not even behind its end, and a result is new each time.
func TestArgumentsAndResults(t *testing.T) {
	c := cutB()
	c.Piece = append(c.Piece, 7, 7, 7)[:6]
	was := slices.Clone(c.Piece[:9])
	for range 2 {
		sides, _ := cut.Sides(c, 0)
		if want := []api.Side{{Piece: api.NoPiece, Edges: 3}, {Piece: 1, Edges: 1}, {Piece: 2, Edges: 1}, {Piece: 3, Edges: 1}}; !slices.Equal(sides, want) {
			t.Errorf("Sides = %v", sides)
		}
		clear(sides)
		lines, _ := cut.Saw(c)
		if want := []api.Line{upright(2, 0, 2), across(1, 0, 2), upright(1, 1, 2)}; !slices.Equal(lines, want) {
			t.Errorf("Saw = %v", lines)
		}
		clear(lines)
		joined, _ := cut.Join(c, 0, 3)
		if want := []int{0, 0, 1, 2, 0, 1}; !slices.Equal(joined.Piece, want) {
			t.Errorf("Join = %v", joined)
		}
		clear(joined.Piece)
		inner := cutC()
		within, _ := cut.Inside(inner, 0)
		if !slices.Equal(within, []int{1}) || !slices.Equal(inner.Piece, cutC().Piece) {
			t.Errorf("Inside = %v of %v", within, inner)
		}
		clear(within)
		cut.Check(c)
		cut.Lines(c)
		if !slices.Equal(c.Piece[:9], was) || c.Wide != 3 || c.High != 2 {
			t.Fatalf("the cut is %v now", c)
		}
	}
}

// P1: each function ends, whatever it is given.
func TestAnyArguments(t *testing.T) {
	numbers := []int{math.MinInt, math.MinInt + 1, -41, -1, 0, 1, 2, 12, 13, 39, 40, 41, 1 << 32, math.MaxInt}
	cuts := goodCuts()[:12]
	for _, c := range badCuts() {
		cuts = append(cuts, c.c)
	}
	for _, wide := range numbers {
		for _, high := range numbers {
			for _, l := range [][]int{nil, {}, {0}, {math.MinInt}, {math.MaxInt, 0}, long(144), long(100000)} {
				cuts = append(cuts, api.Cut{Wide: wide, High: high, Piece: l})
			}
		}
	}
	for _, c := range cuts {
		cut.Check(c)
		cut.Lines(c)
		cut.Saw(c)
		for _, a := range numbers {
			cut.Sides(c, a)
			cut.Inside(c, a)
			for _, b := range numbers {
				cut.Join(c, a, b)
			}
		}
	}
}

// R3: a list that is nil and an empty one are the same.
func TestNilAndEmpty(t *testing.T) {
	for _, l := range [][]int{nil, {}} {
		if n, e := cut.Check(api.Cut{Wide: 1, High: 1, Piece: l}); n != 0 || e != api.ErrArg {
			t.Errorf("Check = %d, error %d", n, e)
		}
	}
}
