package scan_test

import (
	"slices"
	"testing"

	"jigworks/api"
	"jigworks/fit"
	"jigworks/scan"
)

// The slow way finds what is found when all lists of seats are gone through.
func TestSlowTruths(t *testing.T) {
	var s seeds
	tried := 0
	for x := range s.some(4, 60) {
		if len(x.p.Scans) > 2 {
			continue
		}
		tried++
		for _, p := range []api.Pile{x.p, s.spoiled(x.p)} {
			l, ok := slowTruths(p, 1000)
			if all := allTruths(p); !ok || !slices.EqualFunc(l, all, slices.Equal[[]api.Seat]) {
				t.Fatalf("%v: %v, but %v", p, l, all)
			}
		}
	}
	if tried < 150 {
		t.Errorf("only %d piles were small", tried)
	}
}

// P7.1, P7.2: all drawings and scans, against slower ways.
func TestAllDrawings(t *testing.T) {
	var s seeds
	right, wrong := 0, 0
	var many [3]int
	for x := range s.some(9, 40) {
		for _, p := range []api.Pile{x.p, s.spoiled(x.p), s.spoiled(s.spoiled(x.p))} {
			cell, side, e := scan.Check(p.Drawing)
			c, i, ok := slowCheck(p.Drawing)
			switch {
			case ok:
				right++
				if cell != 0 || side != 0 || e != api.ErrNone {
					t.Errorf("%v: Check = %d, %d, error %d", p.Drawing, cell, side, e)
				}
			default:
				wrong++
				if cell != c || side != i || e != api.OK {
					t.Errorf("%v: Check = %d, %d, error %d, not %d, %d", p.Drawing, cell, side, e, c, i)
				}
			}
			for _, y := range p.Scans {
				l, e := scan.Seats(p.Drawing, y)
				if want := slowSeats(p.Drawing, y); !slices.Equal(l, want) || e != api.OK {
					t.Errorf("%v, %v: Seats = %v, error %d, not %v", p.Drawing, y, l, e, want)
				}
				many[min(len(l), 2)]++
			}
		}
	}
	if right < 1000 || wrong < 200 || slices.Min(many[:]) < 500 {
		t.Errorf("%d drawings are right, %d are not; scans with no seat, one, and more: %v", right, wrong, many)
	}
}

// slowCheck returns the first side that is not right, and whether there is none.
func slowCheck(d api.Puzzle) (cell, side int, ok bool) {
	for cell, p := range d.Pieces {
		for side, own := range p.Edges {
			other := next(d, cell, side)
			if other < 0 && own.Kind == api.EdgeFlat {
				continue
			}
			if other < 0 {
				return cell, side, false
			}
			if n, _ := fit.Fit(d.Play, d.Pieces[other].Edges[(side+2)%4], own); n != api.FitAlways {
				return cell, side, false
			}
		}
	}
	return 0, 0, true
}

// P7.3 to P7.7, P4: all that is said, against all truths: it is told just as far as they force it.
func TestAllTruths(t *testing.T) {
	var s seeds
	refused, hung, aliens := 0, 0, 0
	var many [4]int
	check := func(p api.Pile) {
		if neverFits(p) {
			refused++
			checkError(t, p, api.ErrRefuse)
			return
		}
		all, ok := slowTruths(p, 20000)
		if !ok {
			return
		}
		checkPile(t, p, all)
		switch n := len(all); {
		case n < 2:
			many[n]++
		case n < 100:
			many[2]++
		default:
			many[3]++
		}
		if len(all) > 0 && len(p.Hang) > 0 {
			hung++
		}
		if a, _ := ask(p); a.alien != 0 {
			aliens++
		}
	}
	for x := range s.some(9, 120) {
		p := x.p
		for range 3 {
			check(p)
			p = s.spoiled(p)
		}
	}
	if slices.Min(many[:]) < 40 || refused < 200 || hung < 1000 || aliens < 300 {
		t.Errorf("piles with no truth, one, more, and too many: %v; refused %d, hung %d, with aliens %d", many, refused, hung, aliens)
	}
}

// P7.7, P3: the true places are a truth, whatever is said; two truths that are shown differ.
func TestTruePlaces(t *testing.T) {
	var s seeds
	told := 0
	for x := range s.some(9, 200) {
		p := x.p
		if neverFits(p) || !isTruth(p, x.true) {
			t.Fatalf("%v is not in %v", p, x.true)
		}
		a, e := ask(p)
		if e != ofEach(api.OK) {
			t.Fatalf("%v: errors %v", p, e)
		}
		lack := 1<<len(p.Drawing.Pieces) - 1
		for i, seat := range x.true {
			if seat.Cell < 0 && a.alien>>i&1 == 0 || seat.Cell >= 0 && a.cells[i]>>seat.Cell&1 == 0 {
				t.Errorf("%v: the scan %d is not at %v", p, i, seat)
			}
			if seat.Cell >= 0 {
				lack &^= 1 << seat.Cell
			}
			if a.told[i] != seat && a.told[i] != (api.Seat{Cell: seat.Cell}) && a.told[i] != (api.Seat{Cell: -1}) {
				t.Errorf("%v: the scan %d is at %v, but %v is told", p, i, seat, a.told[i])
			}
			if a.told[i] == seat {
				told++
			}
		}
		if a.sure&^lack != 0 || lack&^a.may != 0 {
			t.Errorf("%v: %b is missing, but Missing = %b, %b", p, lack, a.sure, a.may)
		}
		if !isTruth(p, a.first) || a.many > 1 && (!isTruth(p, a.second) || compareSeats(a.first, a.second) >= 0) || compareSeats(a.first, x.true) > 0 || (a.many > 1) != (len(a.second) > 0) {
			t.Errorf("%v: %v and %v are no truths", p, a.first, a.second)
		}
	}
	if told < 2000 {
		t.Errorf("only %d seats were told", told)
	}
}

// narrower returns a piece one of whose sides is known better, and still contains what it must.
func (s *seeds) narrower(p api.Piece) api.Piece {
	e := &p.Edges[s.upTo(4)]
	if e.Kind != api.EdgeFlat {
		x := []*api.Span{&e.At, &e.Wide, &e.Deep}[s.upTo(3)]
		lo := x.Lo + s.upTo(x.Hi-x.Lo+1)
		*x = span(lo, lo+s.upTo(x.Hi-lo+1))
	}
	return p
}

// stricter returns a pile of which more is known, but for how many are lost or foreign; fewer returns one with fewer of these.
func (s *seeds) stricter(p api.Pile) api.Pile {
	p = copyPile(p)
	n := len(p.Scans)
	if n > 0 && s.upTo(3) > 0 {
		i := s.upTo(n)
		p.Scans[i] = s.narrower(p.Scans[i])
	} else if n > 1 && len(p.Hang) < api.MaxHang {
		a := s.upTo(n)
		p.Hang = append(p.Hang, api.Join{A: a, I: s.upTo(4), B: (a + 1 + s.upTo(n-1)) % n, J: s.upTo(4)})
	}
	return p
}

func (s *seeds) fewer(p api.Pile) api.Pile {
	p = copyPile(p)
	if s.upTo(2) == 0 {
		p.Lost = s.upTo(p.Lost + 1)
	} else {
		p.Foreign = s.upTo(p.Foreign + 1)
	}
	return p
}

// P7.8: with more that is known no scan has more places, and what was told stays so; with more that are lost or foreign no place is lost.
func TestMore(t *testing.T) {
	var s seeds
	fewer, gone := 0, 0
	for x := range s.some(9, 150) {
		for _, p := range []api.Pile{s.stricter(x.p), s.fewer(x.p), s.fewer(s.stricter(s.stricter(x.p)))} {
			was, e := ask(x.p)
			a, f := ask(p)
			if e != ofEach(api.OK) {
				t.Fatalf("%v: errors %v", x.p, e)
			}
			if f != ofEach(api.OK) {
				gone++
				continue
			}
			if a.alien&^was.alien != 0 || was.sure&^a.sure != 0 || a.may&^was.may != 0 || a.many > was.many {
				t.Errorf("%v: %v, but %v: %v", x.p, was, p, a)
			}
			for i := range p.Scans {
				if a.cells[i]&^was.cells[i] != 0 || was.told[i].Cell != -1 && a.told[i].Cell != was.told[i].Cell || was.told[i].Turn != 0 && a.told[i] != was.told[i] {
					t.Errorf("%v: %v, but %v: %v", x.p, was, p, a)
				}
			}
			if !slices.Equal(a.cells, was.cells) {
				fewer++
			}
		}
	}
	if fewer < 100 || gone < 100 {
		t.Errorf("fewer places in %d piles, no truth in %d", fewer, gone)
	}
}

// P7.8, P13: the order of scans makes no difference, but for their numbers, nor does that of joins.
func TestOrder(t *testing.T) {
	var s seeds
	for x := range s.some(9, 80) {
		for _, p := range []api.Pile{x.p, s.spoiled(x.p)} {
			other := copyPile(p)
			to := s.order(len(p.Scans))
			for i, n := range to {
				other.Scans[n] = p.Scans[i]
			}
			for i, n := range s.order(len(p.Hang)) {
				j := p.Hang[i]
				other.Hang[n] = s.flipped(api.Join{A: to[j.A], I: j.I, B: to[j.B], J: j.J})
			}
			was, e := ask(p)
			a, f := ask(other)
			if e != f || a.sure != was.sure || a.may != was.may || a.many != was.many {
				t.Errorf("%v: %v, errors %v, but %v: %v, errors %v", p, was, e, other, a, f)
			}
			for i, n := range to {
				if e == ofEach(api.OK) && (a.cells[n] != was.cells[i] || a.alien>>n&1 != was.alien>>i&1 || a.told[n] != was.told[i]) {
					t.Errorf("%v: %v, but %v: %v", p, was, other, a)
				}
			}
		}
	}
}

// P7.8: a scan that is turned by a quarter, and so are the sides by which it hangs, has the same places.
func TestTurnedScans(t *testing.T) {
	var s seeds
	for x := range s.some(9, 80) {
		p := s.spoiled(x.p)
		if len(p.Scans) == 0 {
			continue
		}
		other, i := copyPile(p), s.upTo(len(p.Scans))
		other.Scans[i] = turned(p.Scans[i], 1)
		for k, j := range p.Hang {
			if j.A == i {
				other.Hang[k].I = (j.I + 1) % 4
			}
			if j.B == i {
				other.Hang[k].J = (j.J + 1) % 4
			}
		}
		was, e := ask(p)
		a, f := ask(other)
		if e != f || !slices.Equal(a.cells, was.cells) || a.alien != was.alien || a.sure != was.sure || a.may != was.may || a.many != was.many {
			t.Errorf("%v: %v, errors %v, but %v: %v, errors %v", p, was, e, other, a, f)
		}
		before, _ := scan.Seats(p.Drawing, p.Scans[i])
		after, _ := scan.Seats(other.Drawing, other.Scans[i])
		for k := range before {
			before[k].Turn = (before[k].Turn + 3) % 4
		}
		slices.SortFunc(before, func(x, y api.Seat) int { return compareSeats([]api.Seat{x}, []api.Seat{y}) })
		if !slices.Equal(before, after) {
			t.Errorf("%v, turned by a quarter: Seats = %v, not %v", p.Scans[i], after, before)
		}
	}
}

// P7.9: of a right drawing each piece can be at its own seat; if none is lost and none foreign, nothing is missing.
func TestWholePiles(t *testing.T) {
	var s seeds
	for range 30 {
		for _, size := range sizes(9) {
			d := s.drawing(size[0], size[1], 1+s.upTo(4))
			n := len(d.Pieces)
			if _, _, e := scan.Check(d); e != api.ErrNone {
				t.Fatalf("%v is not right: error %d", d, e)
			}
			var own []api.Seat
			for cell, x := range d.Pieces {
				own = append(own, api.Seat{Cell: cell})
				if l, e := scan.Seats(d, x); !slices.Contains(l, own[cell]) || e != api.OK {
					t.Errorf("%v: the piece %d has the seats %v, error %d", d, cell, l, e)
				}
			}
			p := api.Pile{Drawing: d, Scans: slices.Clone(d.Pieces)}
			a, e := ask(p)
			if e != ofEach(api.OK) || !isTruth(p, own) || a.alien != 0 || a.sure != 0 || a.may != 0 {
				t.Errorf("%v: %v, errors %v", p, a, e)
			}
			for cell := range n {
				if a.cells[cell]>>cell&1 == 0 {
					t.Errorf("%v: the piece %d has the cells %b", p, cell, a.cells[cell])
				}
			}
			p.Scans = p.Scans[1:]
			checkError(t, p, api.ErrState)
			p.Scans = append(slices.Clone(d.Pieces), d.Pieces[s.upTo(n)])
			checkError(t, p, api.ErrState)
		}
	}
}

// R4: arguments stay as they are, and results are new memory.
func TestMemory(t *testing.T) {
	var s seeds
	for x := range s.some(9, 10) {
		p := x.p
		was := copyPile(p)
		all, ok := slowTruths(p, 3000)
		if !ok {
			continue
		}
		for range 2 {
			want, _ := expected(was, all)
			a, _ := ask(p)
			scan.Check(p.Drawing)
			if !a.equal(want) {
				t.Errorf("%v: results changed", p)
			}
			// What is written into one result is in no other one.
			clear(a.first)
			if !slices.Equal(a.second, want.second) || !slices.Equal(a.told, want.told) {
				t.Errorf("%v: results share memory", p)
			}
			clear(a.second)
			clear(a.told)
			clear(a.cells)
			for _, y := range p.Scans {
				l, _ := scan.Seats(p.Drawing, y)
				clear(l)
				if m, _ := scan.Seats(p.Drawing, y); !slices.Equal(m, slowSeats(p.Drawing, y)) {
					t.Errorf("%v: seats changed", p)
				}
			}
			if !samePile(p, was) {
				t.Errorf("%v was %v", p, was)
			}
		}
	}
}

// isDrawing returns whether a drawing is valid, and isPile whether a pile is, as the chapter says it.
func isDrawing(d api.Puzzle) bool {
	if !areSides(d.Play, d.Pieces) {
		return false
	}
	return slices.ContainsFunc(sizes(9), func(size [2]int) bool {
		return d.Wide == size[0] && d.High == size[1] && len(d.Pieces) == size[0]*size[1]
	})
}

func areSides(play api.Play, l []api.Piece) bool {
	if _, e := fit.Fit(play, api.Edge{}, api.Edge{}); e != api.OK {
		return false
	}
	for _, p := range l {
		for _, e := range p.Edges {
			if _, err := fit.Fit(play, e, e); err != api.OK {
				return false
			}
		}
	}
	return true
}

func isPile(p api.Pile) bool {
	if !isDrawing(p.Drawing) || !areSides(p.Drawing.Play, p.Scans) || len(p.Scans) > 12 || len(p.Hang) > 12 {
		return false
	}
	n := len(p.Scans)
	for _, j := range p.Hang {
		if j.A < 0 || j.B < 0 || j.A >= n || j.B >= n || j.A == j.B || j.I < 0 || j.I > 3 || j.J < 0 || j.J > 3 {
			return false
		}
	}
	return p.Lost >= 0 && p.Lost <= 9 && p.Foreign >= 0 && p.Foreign <= 3
}

// P1, R2: any arguments.
func TestAnyArguments(t *testing.T) {
	var s seeds
	good, bad := 0, 0
	for x := range s.some(9, 200) {
		p := s.spoiledByAnything(x.p)
		a, e := ask(p)
		switch {
		case !isPile(p):
			bad++
			if !a.equal(answers{}) || e != ofEach(api.ErrArg) {
				t.Errorf("%v is not valid, but %v, errors %v", p, a, e)
			}
		case neverFits(p):
			if !a.equal(answers{}) || e != ofEach(api.ErrRefuse) {
				t.Errorf("%v is refused, but %v, errors %v", p, a, e)
			}
		default:
			good++
			if e != ofEach(api.OK) && (e != ofEach(api.ErrState) || !a.equal(answers{})) {
				t.Errorf("%v is valid, but %v, errors %v", p, a, e)
			}
		}
		cell, side, f := scan.Check(p.Drawing)
		if (f == api.ErrArg) == isDrawing(p.Drawing) || f != api.OK && cell+side != 0 {
			t.Errorf("%v: Check = %d, %d, error %d", p.Drawing, cell, side, f)
		}
		for _, y := range p.Scans {
			want := api.OK
			if !isDrawing(p.Drawing) || !areSides(p.Drawing.Play, []api.Piece{y}) {
				want = api.ErrArg
			}
			if l, f := scan.Seats(p.Drawing, y); f != want || f != api.OK && len(l) > 0 {
				t.Errorf("%v, %v: Seats = %v, error %d", p.Drawing, y, l, f)
			}
		}
	}
	if good < 1000 || bad < 1000 {
		t.Errorf("%d piles were valid, %d were not", good, bad)
	}
}
