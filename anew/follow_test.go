package anew_test

import (
	"math"
	"slices"
	"testing"

	"jigworks/anew"
	"jigworks/api"
	"jigworks/fit"
	"jigworks/solve"
)

type seeds uint64

// upTo returns a number from 0 to n - 1.
func (s *seeds) upTo(n int) int {
	*s = *s*6364136223846793005 + 1442695040888963407
	return int(uint64(*s)>>33) % n
}

// order returns the numbers from 0 to n - 1 in some order.
func (s *seeds) order(n int) []int {
	l := make([]int, n)
	for i := range l {
		j := s.upTo(i + 1)
		l[i] = l[j]
		l[j] = i
	}
	return l
}

// one returns one of some texts.
func (s *seeds) one(l ...string) string { return l[s.upTo(len(l))] }

func sizes() [][2]int {
	var l [][2]int
	for wide := range 10 {
		for high := range 10 {
			if wide*high > 0 && wide*high < 10 {
				l = append(l, [2]int{wide, high})
			}
		}
	}
	return l
}

// joined returns pieces whose sides fit always or perhaps, as they lie; few kinds of sides, so that they fit elsewhere, too, or more.
func (s *seeds) joined(wide, high int) []api.Piece {
	l := make([]api.Piece, wide*high)
	z := api.Puzzle{Wide: wide, High: high}
	kinds := []string{"aA", "bB", "dG", "cA", "cG", "aE", "pA", "aP", "wB"}[:1+s.upTo(9)]
	if s.upTo(3) == 0 {
		kinds = []string{"aA", "dG"}
	}
	for cell := range l {
		for side := 1; side < 3; side++ {
			other := next(z, cell, side)
			if other < 0 {
				continue
			}
			join := s.one(kinds...)
			i := s.upTo(2)
			l[cell].Edges[side], l[other].Edges[(side+2)%4] = edge(join[i]), edge(join[1-i])
		}
	}
	return l
}

// repair returns a repair that is laid: its pieces have any numbers, and lie turned if they can.
func (s *seeds) repair(wide, high int) api.Repair {
	lie := s.joined(wide, high)
	n := len(lie)
	r := api.Repair{Puzzle: api.Puzzle{Play: play(), Wide: wide, High: high, Turn: s.upTo(2) == 0, Pieces: make([]api.Piece, n)}, Lost: s.upTo(n)}
	order := s.order(n)
	if s.upTo(3) == 0 {
		r.Lost = 0
	}
	for cell, p := range lie {
		l := api.Lay{Piece: order[cell]}
		if r.Puzzle.Turn && l.Piece > 0 {
			l.Turn = s.upTo(4)
		}
		r.Laid = append(r.Laid, l)
		r.Puzzle.Pieces[l.Piece] = turned(p, 4-l.Turn)
	}
	return r
}

// some yields repairs of all sizes, so many of each.
func (s *seeds) some(many int, yield func(r api.Repair)) {
	for _, size := range sizes() {
		for range many {
			yield(s.repair(size[0], size[1]))
		}
	}
}

// made returns a made piece: that one which is lost, or one with other sides, or one that lies elsewhere, or any.
func (s *seeds) made(r api.Repair) api.Piece {
	p := lying(r, place(r))
	switch s.upTo(6) {
	case 0:
		return p
	case 1:
		p = lying(r, s.upTo(len(r.Laid)))
	case 2:
		p = turned(p, s.upTo(4))
	case 3:
		p.Edges[s.upTo(4)] = api.Edge{}
	}
	for side := range p.Edges {
		if p.Edges[side].Kind != api.EdgeFlat && s.upTo(3) == 0 {
			p.Edges[side] = edge(s.one("a", "b", "c", "p", "w", "A", "B", "E", "P", "W")[0])
		}
	}
	if s.upTo(20) == 0 {
		p.Edges[s.upTo(4)] = edge(letters[s.upTo(len(letters))])
	}
	return p
}

// forms returns forms, many of which fit somewhere, for much or for little.
func (s *seeds) forms(r api.Repair, most int) []api.Form {
	var l []api.Form
	most, cost := s.upTo(most+1), 1+s.upTo(4)*s.upTo(4)
	if most > 1 && s.upTo(2) == 0 {
		// This tab fits in two kinds of holes: it is cheap, but leads astray.
		l = append(l, api.Form{Edge: edge('c')})
	}
	for len(l) < most {
		f := api.Form{Edge: edge(letters[s.upTo(len(letters))]), Cost: s.upTo(cost)}
		if p := lying(r, place(r)); s.upTo(3) > 0 {
			if own := p.Edges[s.upTo(4)]; own.Kind != api.EdgeFlat {
				f.Edge = own
			}
		}
		l = append(l, f)
	}
	return l
}

// P10.1, P10.3, P10.4: drawn repairs, against slower ways.
func TestSlowFits(t *testing.T) {
	var s seeds
	var fits [3]int
	var many [4]int
	s.some(40, func(r api.Repair) {
		if l, e := anew.Around(r); l != slowAround(r) || e != api.OK {
			t.Fatalf("%v: Around = %v, error %d, not %v", r, l, e, slowAround(r))
		}
		for range 4 {
			p := s.made(r)
			n, e := anew.Fits(r, p)
			if want := slowFits(r, p, place(r)); n != want || e != api.OK {
				t.Errorf("%v, %v: Fits = %d, error %d, not %d", r, p, n, e, want)
			}
			l, e := anew.Elsewhere(r, p)
			want := slowElsewhere(r, p)
			if !slices.Equal(l, want) || e != api.OK {
				t.Errorf("%v, %v: Elsewhere = %v, error %d, not %v", r, p, l, e, want)
			}
			fits[n]++
			many[min(len(l), 3)]++
		}
	})
	if slices.Min(fits[:]) < 200 || slices.Min(many[:]) < 60 {
		t.Errorf("made pieces fit never, perhaps, always: %v; in so many other seats: %v", fits, many)
	}
}

// P10.2: drawn sides, against all numbers.
func TestSlowShape(t *testing.T) {
	var s seeds
	found, none := 0, 0
	for range 250 {
		p := s.play()
		other := s.edge(p)
		got, e := anew.Shape(p, other)
		want, ok := slowShape(p, other)
		switch {
		case ok:
			found++
			if got != want || e != api.OK {
				t.Errorf("%v, %v: Shape = %v, error %d, not %v", p, other, got, e, want)
			}
		default:
			none++
			if got != (api.Edge{}) || e != api.ErrNone {
				t.Errorf("%v, %v: Shape = %v, error %d", p, other, got, e)
			}
		}
	}
	if found < 50 || none < 50 {
		t.Errorf("%d sides have a shape, %d have none", found, none)
	}
}

// play returns what is allowed: much or little.
func (s *seeds) play() api.Play {
	p := api.Play{Length: []int{1, 30, 2000, 10000}[s.upTo(4)], Slack: s.upTo(60), Loose: s.upTo(60)}
	if s.upTo(3) == 0 {
		p.Slack, p.Loose = s.upTo(501), s.upTo(501)
	}
	p.Damp.Lo = s.upTo(101)
	p.Damp.Hi = p.Damp.Lo + s.upTo(101-p.Damp.Lo)
	return p
}

// edge returns a tab or a hole, often at the least or the greatest numbers.
func (s *seeds) edge(p api.Play) api.Edge {
	span := func(lo, hi, near, broad int) api.Span {
		n := []int{lo, hi, lo + s.upTo(hi-lo+1), near}[s.upTo(4)]
		m := n + s.upTo(broad+1)
		return api.Span{Lo: min(max(lo, n), hi), Hi: min(max(lo, m), hi)}
	}
	return api.Edge{Kind: 1 + s.upTo(2), At: span(0, 10000, p.Length-s.upTo(20), 2*p.Slack+2), Wide: span(1, 3000, 1+s.upTo(600), p.Loose+2), Deep: span(1, 3000, 1+s.upTo(600), p.Loose+2)}
}

// P10.7: what has the numbers of Shape always fits, and what has another number does not always.
func TestShapeFits(t *testing.T) {
	var s seeds
	sure, other, reached := 0, 0, 0
	for range 4000 {
		p := s.play()
		e := s.edge(p)
		made, err := anew.Shape(p, e)
		if err != api.OK {
			continue
		}
		sure++
		narrow := made
		for _, part := range []*api.Span{&narrow.At, &narrow.Wide, &narrow.Deep} {
			part.Lo += s.upTo(part.Hi - part.Lo + 1)
			part.Hi -= s.upTo(part.Hi - part.Lo + 1)
		}
		for _, x := range []api.Edge{made, narrow, s.truly(made)} {
			if n, _ := fit.Fit(p, x, e); n != api.FitAlways {
				t.Errorf("%v, %v: %v fits %d", p, e, x, n)
			}
		}
		for i, most := range []int{10000, 3000, 3000} {
			for _, by := range []int{-1, 1, -1 - s.upTo(50), 1 + s.upTo(50)} {
				wrong := s.truly(made)
				part := []*api.Span{&wrong.At, &wrong.Wide, &wrong.Deep}[i]
				is := []api.Span{made.At, made.Wide, made.Deep}[i]
				*part = span(is.Lo+by, is.Lo+by)
				if by > 0 {
					*part = span(is.Hi+by, is.Hi+by)
				}
				n, err := fit.Fit(p, wrong, e)
				if err != api.OK {
					if part.Lo >= min(i, 1) && part.Hi <= most {
						t.Errorf("%v is not valid", wrong)
					}
					reached++
					continue
				}
				other++
				if n == api.FitAlways {
					t.Errorf("%v, %v: %v always fits, but is not in %v", p, e, wrong, made)
				}
			}
		}
	}
	if min(sure, other, reached) < 300 {
		t.Errorf("%d shapes, %d other numbers, %d that no side can have", sure, other, reached)
	}
}

// truly returns how a side can truly be.
func (s *seeds) truly(e api.Edge) api.Edge {
	for _, part := range []*api.Span{&e.At, &e.Wide, &e.Deep} {
		part.Lo += s.upTo(part.Hi - part.Lo + 1)
		part.Hi = part.Lo
	}
	return e
}

// P10.5: drawn repairs and forms, against all choices.
func TestSlowChoose(t *testing.T) {
	var s seeds
	found, none, cheaper, ties := 0, 0, 0, 0
	try := func(r api.Repair) {
		for _, most := range []int{2, 4, 5} {
			l := s.forms(r, most)
			with, cost, e := anew.Choose(r, l)
			want, least := slowChoose(r, l)
			switch {
			case least >= 0:
				found++
				if with != want || cost != least || e != api.OK {
					t.Errorf("%v, %v: Choose = %v, %d, error %d, not %v, %d", r, l, with, cost, e, want, least)
				}
				less, same := others(r, l, want, least)
				cheaper += less
				ties += same
			default:
				none++
				if with != [4]int{} || cost != 0 || e != api.ErrNone {
					t.Errorf("%v, %v: Choose = %v, %d, error %d", r, l, with, cost, e)
				}
			}
		}
	}
	s.some(40, try)
	// In rows much could lie elsewhere.
	for range 1000 {
		try(s.repair(4+s.upTo(6), 1))
	}
	if min(found, none) < 300 || cheaper < 15 || ties < 100 {
		t.Errorf("%d were found, %d have none; with %d cheaper ones could lie elsewhere; with %d others cost as much", found, none, cheaper, ties)
	}
}

// others returns 1 if some piece that always fits is cheaper, but could lie elsewhere; and 1 if some other one costs as much.
func others(r api.Repair, l []api.Form, best [4]int, least int) (cheaper, ties int) {
	choices(len(l), func(with [4]int) {
		cost := 0
		for _, form := range with {
			if form >= 0 {
				cost += l[form].Cost
			}
		}
		p := madeOf(l, with)
		if cost > least || with == best || slowFits(r, p, place(r)) != api.FitAlways {
			return
		}
		if cost < least {
			cheaper = 1
		} else if len(slowElsewhere(r, p)) == 0 {
			ties = 1
		}
	})
	return cheaper, ties
}

// P10.5: eight forms.
func TestEightForms(t *testing.T) {
	var s seeds
	found := 0
	for range 12 {
		r := s.repair(3, 3)
		for len(slowElsewhere(r, lying(r, place(r)))) > 0 {
			r = s.repair(3, 3)
		}
		var l []api.Form
		for len(l) < 8 {
			l = s.forms(r, 8)
		}
		with, cost, e := anew.Choose(r, l)
		want, least := slowChoose(r, l)
		if least >= 0 {
			found++
		}
		if least >= 0 && (with != want || cost != least || e != api.OK) || least < 0 && e != api.ErrNone {
			t.Errorf("%v, %v: Choose = %v, %d, error %d, not %v, %d", r, l, with, cost, e, want, least)
		}
	}
	if found < 3 {
		t.Errorf("only %d have a choice", found)
	}
}

// P10.6: puzzles of up to 4 pieces, and of up to 6 that cannot be turned, against all orders.
func TestSlowAgain(t *testing.T) {
	var s seeds
	var many [3]int
	s.some(20, func(r api.Repair) {
		if n := len(r.Laid); n > 6 || n > 4 && r.Puzzle.Turn {
			return
		}
		for range 2 {
			p := s.made(r)
			n, e := anew.Again(r, p)
			if want := slowAgain(r, p); n != want || e != api.OK {
				t.Errorf("%v, %v: Again = %d, error %d, not %d", r, p, n, e, want)
			}
			many[min(n, 2)]++
		}
	})
	if slices.Min(many[:]) < 20 {
		t.Errorf("so many have no solution, one, and more: %v", many)
	}
}

// P10.6: as layer 3 counts solutions; P10.7: a piece that fits in its place makes what was laid a solution.
func TestAgainAsLaid(t *testing.T) {
	var s seeds
	again := 0
	s.some(15, func(r api.Repair) {
		p := s.made(r)
		z := r.Puzzle
		z.Pieces = slices.Clone(z.Pieces)
		z.Pieces[r.Lost] = turned(p, 4-r.Laid[place(r)].Turn)
		_, _, want, _ := solve.Solve(z)
		n, e := anew.Again(r, p)
		if n != want || e != api.OK {
			t.Errorf("%v, %v: Again = %d, error %d, not %d", r, p, n, e, want)
		}
		fits, _ := anew.Fits(r, p)
		if fits == api.FitNever {
			return
		}
		again++
		if n == 0 {
			t.Errorf("%v, %v fits %d, but Again = 0", r, p, fits)
		}
		var puts []api.Put
		for cell, l := range r.Laid {
			puts = append(puts, api.Put{Cell: cell, Lay: l})
		}
		if kept, e := solve.Stuck(z, puts); kept != len(puts) || e != api.OK {
			t.Errorf("%v, %v: what was laid is no solution: %d, error %d", r, p, kept, e)
		}
	})
	if again < 100 {
		t.Errorf("only %d pieces fitted", again)
	}
}

// P10.7: a piece that is made of the chosen forms fits its neighbours, however sides truly are, and fits no other place.
func TestMadeAnew(t *testing.T) {
	var s seeds
	found := 0
	s.some(40, func(r api.Repair) {
		l := s.forms(r, 6)
		with, cost, e := anew.Choose(r, l)
		if e != api.OK {
			return
		}
		found++
		sum := 0
		for side, form := range with {
			if (form == api.NoForm) != (next(r.Puzzle, place(r), side) < 0) {
				t.Errorf("%v, %v: Choose = %v", r, l, with)
			}
			if form >= 0 {
				sum += l[form].Cost
			}
		}
		if sum != cost {
			t.Errorf("%v, %v: Choose = %v, %d", r, l, with, cost)
		}
		true_, made := s.trueRepair(r), madeOf(l, with)
		for side, e := range made.Edges {
			if e.Kind != api.EdgeFlat {
				made.Edges[side] = s.truly(e)
			}
		}
		// What was laid fits perhaps only, and need not truly: the piece is tried by itself.
		if n := slowFits(true_, made, place(r)); n != api.FitAlways {
			t.Errorf("%v, %v: what is made of %v fits %d", true_, l, with, n)
		}
		if seats := slowElsewhere(true_, made); len(seats) > 0 {
			t.Errorf("%v, %v: what is made of %v could lie in %v", true_, l, with, seats)
		}
	})
	if found < 200 {
		t.Errorf("only %d pieces were made", found)
	}
}

// trueRepair returns a repair whose sides, and damp, are as they can truly be.
func (s *seeds) trueRepair(r api.Repair) api.Repair {
	r = copyRepair(r)
	for n := range r.Puzzle.Pieces {
		for side, e := range r.Puzzle.Pieces[n].Edges {
			if e.Kind != api.EdgeFlat {
				r.Puzzle.Pieces[n].Edges[side] = s.truly(e)
			}
		}
	}
	damp := s.upTo(11)
	r.Puzzle.Play.Damp = span(damp, damp)
	return r
}

// P10.8: with a form more the cheapest piece costs no more.
func TestMoreForms(t *testing.T) {
	var s seeds
	kept, cheaper, new := 0, 0, 0
	s.some(60, func(r api.Repair) {
		l := s.forms(r, 6)
		_, cost, e := anew.Choose(r, l)
		more := slices.Insert(slices.Clone(l), s.upTo(len(l)+1), api.Form{Edge: edge("acbAEB"[s.upTo(6)]), Cost: s.upTo(3)})
		_, less, f := anew.Choose(r, more)
		if e == api.OK && (f != api.OK || less > cost) {
			t.Errorf("%v, %v: the cost is %d, with %v it is %d, error %d", r, l, cost, more, less, f)
		}
		switch {
		case e != api.OK && f == api.OK:
			new++
		case e == api.OK && less < cost:
			cheaper++
		case e == api.OK:
			kept++
		}
	})
	if min(kept, cheaper, new) < 10 {
		t.Errorf("%d cost as much, %d less, %d are new", kept, cheaper, new)
	}
}

// P10.8: with a greater Slack or Loose a piece that fitted always still does, and could lie wherever it could.
func TestMoreAllowed(t *testing.T) {
	var s seeds
	always, seats := 0, 0
	s.some(30, func(r api.Repair) {
		p := s.made(r)
		fits, _ := anew.Fits(r, p)
		l, _ := anew.Elsewhere(r, p)
		more := r
		if s.upTo(2) == 0 {
			more.Puzzle.Play.Slack += s.upTo(481)
		} else {
			more.Puzzle.Play.Loose += s.upTo(80)
		}
		n, e := anew.Fits(more, p)
		if e != api.OK || n < min(fits, 1) || fits == api.FitAlways && n != api.FitAlways {
			t.Errorf("%v, %v: Fits = %d, with %v %d, error %d", r, p, fits, more.Puzzle.Play, n, e)
		}
		k, e := anew.Elsewhere(more, p)
		for _, x := range l {
			seats++
			if !slices.Contains(k, x) {
				t.Errorf("%v, %v: Elsewhere = %v, with %v %v, error %d", r, p, l, more.Puzzle.Play, k, e)
			}
		}
		if fits == api.FitAlways {
			always++
		}
	})
	if always < 50 || seats < 50 {
		t.Errorf("%d fitted always; %d seats", always, seats)
	}
}

// P10.8: the lost piece's own sides make no difference; nor does its Turn.
func TestLostSides(t *testing.T) {
	var s seeds
	s.some(20, func(r api.Repair) {
		p, l := s.made(r), s.forms(r, 5)
		want, e := ask(r, p, l)
		other := copyRepair(r)
		for side := range 4 {
			other.Puzzle.Pieces[r.Lost].Edges[side] = edge(("-" + letters)[s.upTo(1+len(letters))])
		}
		if r.Puzzle.Turn && r.Lost > 0 {
			other.Laid[place(r)].Turn = s.upTo(4)
		}
		if a, f := ask(other, p, l); !a.equal(want) || f != e {
			t.Errorf("%v, %v, %v: %v, errors %v; with other sides %v, errors %v", r, p, l, want, e, a, f)
		}
	})
}

// P13: the numbers of pieces, and how they are turned, make no difference if the same lies in all cells, and the piece 0 is the same.
func TestOtherNumbers(t *testing.T) {
	var s seeds
	s.some(20, func(r api.Repair) {
		p, l := s.made(r), s.forms(r, 5)
		want, e := ask(r, p, l)
		other := copyRepair(r)
		order := s.order(len(r.Laid))
		zero := slices.Index(order, 0)
		order[0], order[zero] = 0, order[0]
		other.Lost = order[r.Lost]
		for cell, x := range r.Laid {
			y := api.Lay{Piece: order[x.Piece]}
			if r.Puzzle.Turn && y.Piece > 0 {
				y.Turn = s.upTo(4)
			}
			other.Laid[cell] = y
			other.Puzzle.Pieces[y.Piece] = turned(lying(r, cell), 4-y.Turn)
		}
		if a, f := ask(other, p, l); !a.equal(want) || f != e {
			t.Errorf("%v, %v, %v: %v, errors %v; but of %v %v, errors %v", r, p, l, want, e, other, a, f)
		}
	})
}

// R4: no argument is changed, and a result shares no memory.
func TestMemory(t *testing.T) {
	var s seeds
	s.some(8, func(r api.Repair) {
		p, l := s.made(r), s.forms(r, 6)
		before, had := copyRepair(r), slices.Clone(l)
		a, e := ask(r, p, l)
		if !sameRepair(r, before) || !slices.Equal(l, had) {
			t.Fatalf("%v, %v became %v, %v", before, had, r, l)
		}
		first := slices.Clone(a.besides)
		b, f := ask(r, p, l)
		for i := range a.besides {
			a.besides[i] = api.Seat{Cell: -9, Turn: -9}
		}
		if !slices.Equal(b.besides, first) || e != f {
			t.Errorf("%v, %v: Elsewhere = %v, then %v, errors %v and %v", r, p, first, b.besides, e, f)
		}
	})
}

// R3: a nil list and an empty one are the same.
func TestNilAndEmpty(t *testing.T) {
	for _, r := range []api.Repair{strip(1), one()} {
		with, cost, e := anew.Choose(r, nil)
		if w, c, f := anew.Choose(r, []api.Form{}); w != with || c != cost || f != e {
			t.Errorf("%v: Choose of nil and of an empty list differ", r)
		}
	}
	r := strip(1)
	for _, l := range [][]api.Lay{nil, {}} {
		r.Laid = l
		if a, e := ask(r, piece(made), nil); !a.equal(answers{}) || e != ofEach(api.ErrState) {
			t.Errorf("%v: %v, errors %v", r, a, e)
		}
	}
	for _, l := range [][]api.Piece{nil, {}} {
		r.Puzzle.Pieces = l
		if a, e := ask(r, piece(made), nil); !a.equal(answers{}) || e != ofEach(api.ErrArg) {
			t.Errorf("%v: %v, errors %v", r, a, e)
		}
	}
}

// anything returns a number: an ordinary one, or any.
func (s *seeds) anything() int {
	l := []int{0, 1, 2, 3, 4, 5, 8, 9, 10, -1, -2, 100000, 100001, math.MaxInt, math.MinInt}
	return l[s.upTo(len(l))]
}

// isValid returns whether a repair, a made piece and forms are valid.
func isValid(r api.Repair, p api.Piece, l []api.Form) (repair, made, forms bool) {
	z := r.Puzzle
	sides := []api.Edge{}
	for _, x := range z.Pieces {
		sides = append(sides, x.Edges[:]...)
	}
	good := func(l ...api.Edge) bool {
		return !slices.ContainsFunc(l, func(x api.Edge) bool {
			_, e := fit.Fit(z.Play, x, x)
			return e != api.OK
		})
	}
	n := len(z.Pieces)
	repair = slices.Contains(sizes(), [2]int{z.Wide, z.High}) && z.Wide*z.High == n && good(append(sides, api.Edge{})...) && r.Lost >= 0 && r.Lost < n
	forms = !slices.ContainsFunc(l, func(f api.Form) bool {
		return !good(f.Edge) || f.Edge.Kind == api.EdgeFlat || f.Cost < 0 || f.Cost > 100000
	})
	return repair, good(p.Edges[:]...), forms
}

// isLaid returns whether a repair that is valid is laid.
func isLaid(r api.Repair) bool {
	n := len(r.Puzzle.Pieces)
	var there []int
	for _, l := range r.Laid {
		if l.Piece < 0 || l.Piece >= n || l.Turn < 0 || l.Turn > 3 || l.Turn > 0 && (!r.Puzzle.Turn || l.Piece == 0) {
			return false
		}
		there = append(there, l.Piece)
	}
	slices.Sort(there)
	if len(there) != n || len(slices.Compact(there)) != n {
		return false
	}
	for cell := range r.Laid {
		if cell != place(r) && slowFits(r, lying(r, cell), cell) == api.FitNever {
			return false
		}
	}
	return true
}

// P1, R1, R2: any arguments.
func TestAnyArguments(t *testing.T) {
	var s seeds
	good, bad, unlaid := 0, 0, 0
	s.some(100, func(r api.Repair) {
		r = copyRepair(r)
		p, l := s.made(r), s.forms(r, 9)
		s.spoil(&r, &p, l)
		repair, piece, sides := isValid(r, p, l)
		want := ofEach(api.OK)
		switch {
		case !repair:
			bad++
			want = ofEach(api.ErrArg)
		default:
			if !isLaid(r) {
				unlaid++
				want = ofEach(api.ErrState)
			}
			if !piece {
				want[1], want[2], want[4] = api.ErrArg, api.ErrArg, api.ErrArg
			}
			if !sides {
				want[3] = api.ErrArg
			}
			if len(l) > 8 {
				want[3] = api.ErrLong
			}
		}
		a, e := ask(r, p, l)
		if want == ofEach(api.OK) {
			good++
		}
		if want[3] == api.OK && e[3] == api.ErrNone {
			want[3] = api.ErrNone
		}
		if e != want {
			t.Errorf("%v, %v, %v: errors %v, not %v", r, p, l, e, want)
		}
		if e[0] != api.OK && a.around != [4]api.Edge{} || e[1] != api.OK && a.fits != 0 || e[2] != api.OK && a.besides != nil || e[3] != api.OK && (a.with != [4]int{} || a.cost != 0) || e[4] != api.OK && a.again != 0 {
			t.Errorf("%v, %v, %v: %v with the errors %v", r, p, l, a, e)
		}
	})
	if min(good, bad, unlaid) < 200 {
		t.Errorf("%d were good, %d not valid, %d not laid", good, bad, unlaid)
	}
}

// spoil changes something of a repair, a made piece, or forms, or nothing.
func (s *seeds) spoil(r *api.Repair, p *api.Piece, l []api.Form) {
	for range s.upTo(3) {
		side := &p.Edges[s.upTo(4)]
		switch s.upTo(10) {
		case 0:
			r.Lost = s.anything()
		case 1:
			r.Laid[s.upTo(len(r.Laid))].Turn = s.anything()
		case 2:
			r.Laid[s.upTo(len(r.Laid))].Piece = s.anything()
		case 3:
			i, j := s.upTo(len(r.Laid)), s.upTo(len(r.Laid))
			r.Laid[i], r.Laid[j] = r.Laid[j], r.Laid[i]
		case 4:
			r.Puzzle.Wide, r.Puzzle.High = r.Puzzle.High, r.Puzzle.Wide
		case 5:
			r.Puzzle.Wide = s.anything()
		case 6:
			side = &r.Puzzle.Pieces[s.upTo(len(r.Puzzle.Pieces))].Edges[s.upTo(4)]
			fallthrough
		case 7:
			*side = api.Edge{Kind: s.anything(), At: span(s.anything(), 9), Wide: span(s.anything(), 9), Deep: span(1, s.anything())}
		case 8:
			if len(l) > 0 {
				l[s.upTo(len(l))].Cost = s.anything()
			}
		case 9:
			if len(l) > 0 {
				l[s.upTo(len(l))].Edge.Kind = s.anything()
			}
		}
	}
}
