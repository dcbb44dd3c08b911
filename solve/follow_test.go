package solve_test

import (
	"math"
	"slices"
	"testing"

	"jigworks/api"
	"jigworks/fit"
	"jigworks/solve"
)

// solved returns the first and the second of all solutions, how many of them are counted, and the error.
func solved(all [][]api.Lay) (first, second []api.Lay, many int, e api.Errno) {
	if len(all) == 0 {
		return nil, nil, 0, api.ErrNone
	}
	if len(all) > 1 {
		second = all[1]
	}
	return all[0], second, min(len(all), api.MaxSolutions), api.OK
}

// some yields many puzzles with at most so many pieces, some of them spoiled, and all their solutions.
func some(most, rounds int) func(yield func(api.Puzzle, [][]api.Lay) bool) {
	return func(yield func(api.Puzzle, [][]api.Lay) bool) {
		var s seeds
		for round := range rounds {
			for _, size := range sizes(most) {
				fewest := 1
				if size[0]*size[1] > 7 {
					// Of so many pieces with alike sides there are thousands of solutions.
					fewest = 2
				}
				z, _ := s.some(size[0], size[1], round%2 == 0, fewest+s.upTo(4))
				if s.upTo(5) == 0 {
					z = s.spoiled(z)
				}
				if !yield(z, slowSolutions(z)) {
					return
				}
			}
		}
	}
}

// The slow way finds what is found when all orders are gone through.
func TestSlowSolutions(t *testing.T) {
	for z, all := range some(4, 20) {
		if l := allLays(z); !slices.EqualFunc(l, all, slices.Equal[[]api.Lay]) {
			t.Fatalf("%v: %v, but %v", z, all, l)
		}
	}
}

// P3.1, P3.2, P3.7, P4: all joins and solutions, against slower ways.
func TestAllSolutions(t *testing.T) {
	var many [4]int
	for z, all := range some(9, 60) {
		sure, may, e := solve.Joins(z)
		if !slices.Equal(sure, slowJoins(z, api.FitAlways)) || !slices.Equal(may, slowJoins(z, api.FitPerhaps)) || e != api.OK {
			t.Fatalf("%v: Joins = %v, %v, error %d", z, sure, may, e)
		}
		first, second, n, e := solve.Solve(z)
		a, b, m, f := solved(all)
		if !slices.Equal(first, a) || !slices.Equal(second, b) || n != m || e != f {
			t.Fatalf("%v: Solve = %v, %v, %d, error %d, not %v, %v, %d, error %d", z, first, second, n, e, a, b, m, f)
		}
		if n > 0 && !isSolution(z, first) || n > 1 && (!isSolution(z, second) || slices.Equal(first, second)) {
			t.Errorf("%v: %v and %v are no two solutions", z, first, second)
		}
		switch {
		case n < 2:
			many[n]++
		case n < api.MaxSolutions:
			many[2]++
		default:
			many[3]++
		}
	}
	if slices.Min(many[:]) < 15 {
		t.Errorf("puzzles with no solution, one, more, and too many: %v", many)
	}
}

// P3.3, P3.7: each solution is made of joins that are not false, and each of these is in one.
func TestAllFalseJoins(t *testing.T) {
	wrong, right := 0, 0
	for z, all := range some(9, 40) {
		l, e := solve.False(z)
		if want := slowFalse(z, all); !slices.Equal(l, want) || e != api.OK {
			t.Fatalf("%v: False = %v, error %d, not %v", z, l, e, want)
		}
		wrong += len(l)
		_, may, _ := solve.Joins(z)
		right += len(may) - len(l)
		if len(all) == 0 && !slices.Equal(l, may) {
			t.Errorf("%v has no solution, but only %v of %v are false", z, l, may)
		}
	}
	if wrong < 1000 || right < 1000 {
		t.Errorf("%d joins are false, and %d are not", wrong, right)
	}
}

// P3.4, P3.8: a piece can be put into a cell just if Where says so; in a puzzle with one solution each has one cell.
func TestAllCells(t *testing.T) {
	for z, all := range some(9, 10) {
		for piece := range z.Pieces {
			want, e := cellsOf(all, piece), api.OK
			if len(all) == 0 {
				e = api.ErrNone
			}
			cells, f := solve.Where(z, piece)
			if cells != want || f != e {
				t.Fatalf("%v: Where of %d = %b, error %d, not %b", z, piece, cells, f, want)
			}
			if len(all) == 1 && cells&(cells-1) != 0 {
				t.Errorf("%v has one solution, but %d the cells %b", z, piece, cells)
			}
			if len(all) < 300 {
				canBePut(t, z, piece, cells, f)
			}
		}
	}
}

// canBePut checks that a piece can be put just into these cells, turned in some way.
func canBePut(t *testing.T, z api.Puzzle, piece, cells int, e api.Errno) {
	for cell := range z.Pieces {
		can := false
		for turn := range 4 {
			n, f := solve.Stuck(z, []api.Put{turnedPut(piece, turn, cell)})
			can = can || n == 1 && f == api.OK
			if f != e && f != api.ErrRange {
				t.Errorf("%v: Stuck of %d in %d has the error %d", z, piece, cell, f)
			}
		}
		if can != (cells>>cell&1 == 1) {
			t.Errorf("%v: %d can be put into the cells %b, but into %d: %v", z, piece, cells, cell, can)
		}
	}
}

// puts returns puts of a solution in some order, of which some are changed, so that they are still valid.
func (s *seeds) puts(z api.Puzzle, l []api.Lay) []api.Put {
	l = slices.Clone(l)
	if s.upTo(2) == 0 {
		i, j := s.upTo(len(l)), s.upTo(len(l))
		l[i], l[j] = l[j], l[i]
	}
	if i := s.upTo(len(l)); z.Turn && l[i].Piece > 0 && s.upTo(3) == 0 {
		l[i].Turn = s.upTo(4)
	}
	var puts []api.Put
	for _, cell := range s.order(len(l))[:s.upTo(len(l)+1)] {
		puts = append(puts, api.Put{Cell: cell, Lay: l[cell]})
	}
	return puts
}

// P3.5, P3.8: what has been laid, against all solutions.
func TestAllPuts(t *testing.T) {
	var s seeds
	stuck, done := 0, 0
	for z, all := range some(9, 30) {
		for range 8 {
			if len(all) == 0 {
				if n, e := solve.Stuck(z, []api.Put{put(0, s.upTo(len(z.Pieces)))}); n != 0 || e != api.ErrNone {
					t.Errorf("%v: Stuck = %d, error %d", z, n, e)
				}
				continue
			}
			l := s.puts(z, all[s.upTo(len(all))])
			want := slowStuck(all, l)
			n, e := solve.Stuck(z, l)
			if n != want || e != api.OK {
				t.Fatalf("%v: Stuck of %v = %d, error %d, not %d", z, l, n, e, want)
			}
			if n == len(l) {
				done++
				backwards(t, z, l)
			} else {
				stuck++
			}
		}
	}
	if stuck < 500 || done < 500 {
		t.Errorf("stuck: %d, done: %d", stuck, done)
	}
}

// backwards checks that what can be completed still can when it was put the other way round (P13).
func backwards(t *testing.T, z api.Puzzle, l []api.Put) {
	l = slices.Clone(l)
	slices.Reverse(l)
	if n, e := solve.Stuck(z, l); n != len(l) || e != api.OK {
		t.Errorf("%v: Stuck of %v, the other way round, = %d, error %d", z, l, n, e)
	}
}

// P3.6, P3.8: pieces that change places, against all solutions.
func TestAllTwins(t *testing.T) {
	with, late := 0, 0
	for z, all := range some(9, 40) {
		want := slowTwins(z, all)
		l, e := solve.Twins(z)
		if !slices.Equal(l, want) || e != api.OK {
			t.Fatalf("%v: Twins = %v, error %d, not %v", z, l, e, want)
		}
		if len(all) == 1 && len(l) > 0 {
			t.Errorf("%v has one solution, but the twins %v", z, l)
		}
		with += len(l)
		if len(all) > 1 && len(l) > len(slowTwins(z, all[:2])) {
			late++
		}
	}
	if with < 100 || late < 10 {
		t.Errorf("%d twins, in %d puzzles not in the first two solutions", with, late)
	}
}

// trueSide returns a side as it truly is, somewhere within a side.
func (s *seeds) trueSide(x api.Edge) api.Edge {
	one := func(y api.Span) api.Span {
		n := y.Lo + s.upTo(y.Hi-y.Lo+1)
		return span(n, n)
	}
	return api.Edge{Kind: x.Kind, At: one(x.At), Wide: one(x.Wide), Deep: one(x.Deep)}
}

// truth returns a puzzle as it truly is.
func (s *seeds) truth(z api.Puzzle) api.Puzzle {
	z = copyOf(z)
	for i := range z.Pieces {
		for side := range 4 {
			z.Pieces[i].Edges[side] = s.trueSide(z.Pieces[i].Edges[side])
		}
	}
	damp := z.Play.Damp.Lo + s.upTo(z.Play.Damp.Hi-z.Play.Damp.Lo+1)
	z.Play.Damp = span(damp, damp)
	return z
}

// P3.7, P3, P4: in each truth there is no solution but those that there are; what meets surely does in each truth.
func TestSolutionsInTruth(t *testing.T) {
	var s seeds
	one, kept := 0, 0
	for z, all := range some(9, 20) {
		first, second, _, e := solve.Solve(z)
		sure, may, _ := solve.Joins(z)
		for range 4 {
			x := s.truth(z)
			l, m, _, f := solve.Solve(x)
			for _, p := range [][]api.Lay{l, m} {
				if f == api.OK && len(p) > 0 && !slices.ContainsFunc(all, func(q []api.Lay) bool { return slices.Equal(p, q) }) {
					t.Errorf("%v: %v is a solution of %v only", z, p, x)
				}
			}
			if e == api.OK && len(second) == 0 {
				one++
				if len(m) > 0 || f == api.OK && !slices.Equal(l, first) {
					t.Errorf("%v has one solution, %v, but truly %v, %v", z, first, l, m)
				}
				if f == api.OK {
					kept++
				}
			}
			trueSure, trueMay, _ := solve.Joins(x)
			if !slices.Equal(trueSure, trueMay) {
				t.Errorf("%v: what is exact meets, or does not: %v, %v", x, trueSure, trueMay)
			}
			within(t, sure, trueMay)
			within(t, trueMay, may)
		}
	}
	if one < 200 || kept < 50 {
		t.Errorf("%d puzzles with one solution, %d of them still have it", one, kept)
	}
}

// within checks that all elements of a list are in another one.
func within[T comparable](t *testing.T, l, all []T) {
	for _, x := range l {
		if !slices.Contains(all, x) {
			t.Errorf("%v is not among %v", x, all)
		}
	}
}

// P3.7: what a puzzle was cut like is a solution, if its sides fit, and stays one with a greater Slack or Loose.
func TestCutAndMoreAllowed(t *testing.T) {
	var s seeds
	for round := range 20 {
		for _, size := range sizes(9) {
			z, laid := s.some(size[0], size[1], round%2 == 0, 1+s.upTo(3))
			z.Play.Slack, z.Play.Loose = s.upTo(25), s.upTo(35)
			if all := slowSolutions(z); isSolution(z, laid) != slices.ContainsFunc(all, func(l []api.Lay) bool { return slices.Equal(l, laid) }) {
				t.Errorf("%v was laid %v", z, laid)
			}
			more := copyOf(z)
			more.Play.Slack += s.upTo(8)
			more.Play.Loose += s.upTo(8)
			first, second, many, e := solve.Solve(z)
			_, _, n, f := solve.Solve(more)
			if n < many || e == api.OK && f != api.OK {
				t.Errorf("%v has %d solutions, with more allowed %d", z, many, n)
			}
			if len(first) > 0 && !isSolution(more, first) || len(second) > 0 && !isSolution(more, second) {
				t.Errorf("%v: a solution is none with more allowed", z)
			}
			_, may, _ := solve.Joins(z)
			_, all, _ := solve.Joins(more)
			within(t, may, all)
			for piece := range z.Pieces {
				was, _ := solve.Where(z, piece)
				cells, _ := solve.Where(more, piece)
				if was&^cells != 0 {
					t.Errorf("%v: %d had the cells %b, with more allowed %b", z, piece, was, cells)
				}
			}
		}
	}
}

// renumbered returns a puzzle whose pieces, all but the piece 0, have other numbers, and these numbers.
func (s *seeds) renumbered(z api.Puzzle) (api.Puzzle, []int) {
	to := []int{0}
	for _, n := range s.order(len(z.Pieces) - 1) {
		to = append(to, n+1)
	}
	other := copyOf(z)
	for i, p := range z.Pieces {
		other.Pieces[to[i]] = p
	}
	return other, to
}

// renamed returns joins with other numbers of pieces, sorted.
func renamed(l []api.Join, to []int) []api.Join {
	var m []api.Join
	for _, j := range l {
		j.A, j.B = to[j.A], to[j.B]
		if j.A > j.B {
			j = api.Join{A: j.B, I: j.J, B: j.A, J: j.I}
		}
		m = append(m, j)
	}
	slices.SortFunc(m, func(a, b api.Join) int {
		return slices.Compare([]int{a.A, a.I, a.B, a.J}, []int{b.A, b.I, b.B, b.J})
	})
	return m
}

// P3.9, P13: other numbers of pieces.
func TestOtherNumbers(t *testing.T) {
	var s seeds
	for z := range some(9, 15) {
		other, to := s.renumbered(z)
		sure, may, _ := solve.Joins(z)
		sure2, may2, _ := solve.Joins(other)
		if !slices.Equal(sure2, renamed(sure, to)) || !slices.Equal(may2, renamed(may, to)) {
			t.Errorf("%v: joins %v, %v, with the numbers %v: %v, %v", z, sure, may, to, sure2, may2)
		}
		l, _ := solve.False(z)
		if m, _ := solve.False(other); !slices.Equal(m, renamed(l, to)) {
			t.Errorf("%v: false joins %v, with the numbers %v: %v", z, l, to, m)
		}
		_, _, many, e := solve.Solve(z)
		if _, _, n, f := solve.Solve(other); n != many || f != e {
			t.Errorf("%v: %d solutions, with the numbers %v: %d", z, many, to, n)
		}
		for piece := range z.Pieces {
			cells, e := solve.Where(z, piece)
			if n, f := solve.Where(other, to[piece]); n != cells || f != e {
				t.Errorf("%v: %d has the cells %b, with the numbers %v: %b", z, piece, cells, to, n)
			}
		}
		var pairs [][2]int
		twins, _ := solve.Twins(z)
		for _, p := range twins {
			pairs = append(pairs, [2]int{min(to[p[0]], to[p[1]]), max(to[p[0]], to[p[1]])})
		}
		slices.SortFunc(pairs, func(a, b [2]int) int { return slices.Compare(a[:], b[:]) })
		if l, _ := solve.Twins(other); !slices.Equal(l, pairs) {
			t.Errorf("%v: twins %v, with the numbers %v: %v", z, twins, to, l)
		}
	}
}

// R4: arguments stay as they are, and results are new memory.
func TestMemory(t *testing.T) {
	for _, z := range []api.Puzzle{puzzleS(), puzzleQ(), pinwheel(), row(7), puzzle(1, 1, true, "----")} {
		was := copyOf(z)
		l := []api.Put{put(0, 0), put(1, len(z.Pieces)-1)}[:min(2, len(z.Pieces))]
		puts := slices.Clone(l)
		for range 2 {
			sure, may, _ := solve.Joins(z)
			first, second, many, _ := solve.Solve(z)
			wrong, _ := solve.False(z)
			twins, _ := solve.Twins(z)
			solve.Where(z, 0)
			solve.Stuck(z, l)
			a, b, n, _ := solved(slowSolutions(z))
			if !slices.Equal(sure, slowJoins(z, 2)) || !slices.Equal(may, slowJoins(z, 1)) || !slices.Equal(first, a) || !slices.Equal(second, b) || many != n ||
				!slices.Equal(wrong, slowFalse(z, slowSolutions(z))) || !slices.Equal(twins, slowTwins(z, slowSolutions(z))) {
				t.Errorf("%v: results changed", z)
			}
			// What is written into one result is in no other one.
			for i := range sure {
				sure[i].A = -5
			}
			for i := range first {
				first[i].Turn = -5
			}
			if !slices.Equal(may, slowJoins(z, 1)) || !slices.Equal(second, b) {
				t.Errorf("%v: results share memory", z)
			}
			clear(may)
			clear(second)
			clear(wrong)
			clear(twins)
			if !same(z, was) || !slices.Equal(l, puts) {
				t.Errorf("%v was %v, and %v was %v", z, was, l, puts)
			}
		}
	}
}

// anything returns some number, often one that is at a bound.
func (s *seeds) anything() int {
	l := []int{0, 0, 0, 1, 1, 2, 3, 4, 5, 9, 10, -1, -2, 500, 1000, 3000, 10000, 10001, math.MaxInt, math.MinInt, math.MaxInt - 1, 1 << 32}
	return l[s.upTo(len(l))]
}

func (s *seeds) anySpan() api.Span { return span(s.anything(), s.anything()) }

func (s *seeds) anyPuzzle() api.Puzzle {
	z, _ := s.some(1+s.upTo(3), 1+s.upTo(3), s.upTo(2) == 0, 1+s.upTo(3))
	for range s.upTo(3) {
		switch s.upTo(6) {
		case 0:
			z.Wide = s.anything()
		case 1:
			z.High = s.anything()
		case 2:
			z.Pieces = slices.Repeat(z.Pieces, s.upTo(4))
		case 3:
			z.Play = api.Play{Length: s.anything(), Slack: s.anything(), Loose: s.anything(), Damp: s.anySpan()}
		case 4:
			if len(z.Pieces) > 0 {
				z.Pieces[s.upTo(len(z.Pieces))].Edges[s.upTo(4)] = api.Edge{Kind: s.anything(), At: s.anySpan(), Wide: s.anySpan(), Deep: s.anySpan()}
			}
		case 5:
			z.Wide, z.High = z.High, z.Wide
		}
	}
	return z
}

// isValid returns whether a puzzle is valid, as the chapter says it.
func isValid(z api.Puzzle) bool {
	if _, e := fit.Fit(z.Play, api.Edge{}, api.Edge{}); e != api.OK {
		return false
	}
	for _, p := range z.Pieces {
		for _, s := range p.Edges {
			if _, e := fit.Fit(z.Play, s, s); e != api.OK {
				return false
			}
		}
	}
	for _, size := range sizes(9) {
		if z.Wide == size[0] && z.High == size[1] && len(z.Pieces) == size[0]*size[1] {
			return true
		}
	}
	return false
}

// P1, R2: any arguments.
func TestAnyArguments(t *testing.T) {
	var s seeds
	good := 0
	for range 6000 {
		z := s.anyPuzzle()
		var l []api.Put
		for range s.upTo(24) {
			l = append(l, turnedPut(s.anything(), s.anything(), s.anything()))
		}
		sure, may, e := solve.Joins(z)
		first, second, many, e2 := solve.Solve(z)
		wrong, e3 := solve.False(z)
		cells, e4 := solve.Where(z, s.anything())
		n, e5 := solve.Stuck(z, l)
		twins, e6 := solve.Twins(z)
		if isValid(z) {
			good++
			if e != api.OK || e2 == api.ErrArg || e3 != api.OK || e4 == api.ErrArg || e5 == api.ErrArg || e6 != api.OK {
				t.Errorf("%v is valid, but has the errors %d %d %d %d %d %d", z, e, e2, e3, e4, e5, e6)
			}
		} else if e != api.ErrArg || e2 != e || e3 != e || e4 != e || e5 != e || e6 != e {
			t.Errorf("%v is not valid, but has the errors %d %d %d %d %d %d", z, e, e2, e3, e4, e5, e6)
		}
		if e != api.OK && len(sure)+len(may) > 0 || e2 != api.OK && len(first)+len(second)+many > 0 || e3 != api.OK && len(wrong) > 0 || e4 != api.OK && cells != 0 || e5 != api.OK && n != 0 || e6 != api.OK && len(twins) > 0 {
			t.Errorf("%v: results with errors", z)
		}
	}
	if good < 1000 {
		t.Errorf("only %d puzzles were valid", good)
	}
}
