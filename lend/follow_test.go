package lend_test

import (
	"iter"
	"slices"
	"testing"

	"jigworks/api"
	"jigworks/lend"
)

type seeds uint64

// upTo returns a number from 0 to n - 1.
func (s *seeds) upTo(n int) int {
	*s = *s*6364136223846793005 + 1442695040888963407
	return int(uint64(*s)>>33) % n
}

// order returns the numbers from 0 to n - 1 in some order.
func (s *seeds) order(n int) []int {
	l := make([]int, n)
	for i := range l {
		j := s.upTo(i + 1)
		l[i] = l[j]
		l[j] = i
	}
	return l
}

// made is a tale that is true, and in which hour each piece was lost.
type made struct {
	t    api.Tale
	true []int
}

// made returns a tale of some pieces and persons, of few hours: the first ones, or the last ones.
func (s *seeds) made(pieces, persons int) made {
	m := made{t: api.Tale{Pieces: pieces}}
	start := s.upTo(2) * (api.MaxHour - 16)
	for hour := start; hour < start+15 && len(m.t.Loans) < api.MaxLoans; {
		l := api.Loan{Person: s.upTo(persons), From: hour + max(0, s.upTo(9)-6)}
		l.To = l.From + 1 + s.upTo(4)
		hour = l.To
		if l.To <= start+16 {
			m.t.Loans = append(m.t.Loans, l)
		}
	}
	m.t.Loans = shuffled(s, m.t.Loans)[:len(m.t.Loans)*(s.upTo(6)+3)/8]
	for range pieces {
		hour := start + s.upTo(16)
		if s.upTo(4) == 0 {
			hour = kept
		}
		m.true = append(m.true, hour)
	}
	for range s.upTo(13) {
		m.t.Looks = append(m.t.Looks, s.look(m, start+s.upTo(17), 2))
	}
	m.t.Admits = s.admits(m, persons)
	return m
}

// look returns a look at some of the pieces: one of so many each.
func (s *seeds) look(m made, hour, of int) api.Sight {
	x := api.Sight{Hour: hour}
	for i, lost := range m.true {
		switch {
		case s.upTo(of) > 0:
		case lost < hour:
			x.Gone |= 1 << i
		default:
			x.There |= 1 << i
		}
	}
	return x
}

// admits returns what persons admit: the truth, or nothing.
func (s *seeds) admits(m made, persons int) []int {
	var n counts
	for _, hour := range m.true {
		n[loser(m.t, hour)]++
	}
	l := slices.Clone(n[:persons])
	for i := range l {
		if s.upTo(2) == 0 {
			l[i] = -1
		}
	}
	return l
}

// spoiled returns a tale one report of which is another one.
func (s *seeds) spoiled(t api.Tale) api.Tale {
	t = copyTale(t)
	switch s.upTo(4) {
	case 0:
		t.Admits[s.upTo(len(t.Admits))] = s.upTo(t.Pieces + 1)
	default:
		if n := len(t.Looks); n > 0 {
			x := &t.Looks[s.upTo(n)]
			if bit := 1 << s.upTo(t.Pieces); x.There&bit > 0 {
				x.There, x.Gone = x.There-bit, x.Gone|bit
			} else {
				x.There, x.Gone = x.There|bit, x.Gone&^bit
			}
		}
	case 1:
		if n := len(t.Loans); n > 0 {
			t.Loans[s.upTo(n)].Person = s.upTo(len(t.Admits))
		}
	}
	return t
}

func shuffled[T any](s *seeds, l []T) []T {
	var other []T
	for _, i := range s.order(len(l)) {
		other = append(other, l[i])
	}
	return other
}

// some yields tales of up to so many pieces, so often, and tales one or two of whose reports are spoiled.
func (s *seeds) some(pieces, many int, yield func(m made, t api.Tale)) {
	for range many {
		m := s.made(1+s.upTo(pieces), 1+s.upTo(6))
		yield(m, m.t)
		t := s.spoiled(m.t)
		yield(m, t)
		yield(m, s.spoiled(t))
	}
}

// P8.1 to P8.5, P4: all that is said, against all truths, counted piece by piece.
func TestAllTruths(t *testing.T) {
	var s seeds
	var fits, looks, admits int
	s.some(5, 500, func(_ made, x api.Tale) {
		hours := turns(x)
		a, want := ask(x, hours), slowAsk(x, hours)
		if !a.equal(want) {
			t.Fatalf("%v: %v, not %v", x, a, want)
		}
		switch {
		case want.errors[len(want.errors)-1] == api.ErrNone:
			fits++
		case want.clash < len(x.Looks):
			looks++
		default:
			admits++
		}
	})
	if min(fits, looks, admits) < 150 {
		t.Errorf("%d tales can be true, of %d looks cannot be, of %d what is admitted cannot", fits, looks, admits)
	}
}

// The slower way finds what is found when all lists of hours are gone through.
func TestSlowTruths(t *testing.T) {
	var s seeds
	tried := 0
	s.some(3, 80, func(_ made, x api.Tale) {
		if len(turns(x)) > 20 {
			return
		}
		tried++
		var lost, who [8]int // the numbers of pieces that each one lost, and the pieces, by bits
		for l := range lists(append(turns(x), kept), x.Pieces) {
			if !isTruth(x, l) {
				continue
			}
			n := countsOf(x, l)
			for i := range n {
				lost[i] |= 1 << n[i]
			}
			for piece, hour := range l {
				who[loser(x, hour)] |= 1 << piece
			}
		}
		var slowLost, slowWho [8]int
		for _, n := range fitting(x, slowCounts(x, x.Looks, -1, 0)) {
			for i := range n {
				slowLost[i] |= 1 << n[i]
			}
		}
		for piece := range x.Pieces {
			for by := range 8 {
				if len(fitting(x, slowCounts(x, x.Looks, piece, by))) > 0 {
					slowWho[by] |= 1 << piece
				}
			}
		}
		if lost != slowLost || who != slowWho {
			t.Fatalf("%v: %v, %v, not %v, %v", x, slowLost, slowWho, lost, who)
		}
	})
	if tried < 100 {
		t.Errorf("only %d tales were small", tried)
	}
}

// lists yields all lists of so many hours.
func lists(hours []int, many int) iter.Seq[[]int] {
	return func(yield func([]int) bool) {
		l := make([]int, many)
		var fill func(i int) bool
		fill = func(i int) bool {
			if i == many {
				return yield(l)
			}
			for _, h := range hours {
				l[i] = h
				if !fill(i + 1) {
					return false
				}
			}
			return true
		}
		fill(0)
	}
}

func countsOf(t api.Tale, l []int) counts {
	var n counts
	for _, hour := range l {
		n[loser(t, hour)]++
	}
	return n
}

// isTruth returns whether a tale is true if each piece was lost in some hour.
func isTruth(t api.Tale, l []int) bool {
	for piece, hour := range l {
		if !fitsLooks(t.Looks, piece, hour) {
			return false
		}
	}
	return fitsAdmits(t, countsOf(t, l))
}

// P8.7, P3: what is true is among what is said.
func TestTheTruth(t *testing.T) {
	var s seeds
	sure, alone := 0, 0
	s.some(16, 1500, func(m made, _ api.Tale) {
		if !isTruth(m.t, m.true) {
			t.Fatalf("%v does not fit %v", m.true, m.t)
		}
		if n, e := lend.Clash(m.t); n != 0 || e != api.ErrNone {
			t.Fatalf("%v: Clash = %d, error %d", m, n, e)
		}
		for piece, hour := range m.true {
			w, gone, e := lend.Window(m.t, piece)
			if hour == kept && gone || hour != kept && (hour < w.Lo || hour > w.Hi) || e != api.OK {
				t.Errorf("%v: Window of %d = %v, %v, error %d", m, piece, w, gone, e)
			}
			who, e := lend.Who(m.t, piece)
			if who>>loser(m.t, hour)&1 == 0 || who>>8 != 0 || gone && who>>7 == 1 || e != api.OK {
				t.Errorf("%v: Who of %d = %b, error %d", m, piece, who, e)
			}
			if who&(who-1) == 0 {
				alone++
			}
		}
		n := countsOf(m.t, m.true)
		for person := range m.t.Admits {
			x, e := lend.Lost(m.t, person)
			if n[person] < x.Lo || n[person] > x.Hi || e != api.OK {
				t.Errorf("%v: Lost of %d = %v, error %d", m, person, x, e)
			}
			if m.t.Admits[person] < 0 && x.Lo > 0 && x.Lo == x.Hi {
				sure++
			}
		}
	})
	if sure < 50 || alone < 500 {
		t.Errorf("of %d persons a number was sure, %d pieces had one loser only", sure, alone)
	}
}

// P8.7: who can have lost a piece did so between two looks more, and nobody else did.
func TestWhoCanBeSeen(t *testing.T) {
	var s seeds
	var can, cannot int
	s.some(16, 40, func(_ made, x api.Tale) {
		hours := turns(x)
		_, e := lend.Clash(x)
		for piece := range x.Pieces {
			who, f := lend.Who(x, piece)
			if (e == api.ErrNone) != (f == api.OK) {
				t.Errorf("%v: Who of %d has the error %d, Clash %d", x, piece, f, e)
			}
			var found int
			for _, h := range append(hours, kept) {
				if stands(sawLost(x, piece, h)) {
					found |= 1 << loser(x, h)
					can++
				} else {
					cannot++
				}
			}
			if found != who {
				t.Errorf("%v: Who of %d = %b, not %b", x, piece, who, found)
			}
		}
	})
	if min(can, cannot) < 1000 {
		t.Errorf("%d answers stand, %d do not", can, cannot)
	}
}

// sawLost returns a tale with two looks more, between which a piece was lost in an hour, or with one at which it was there in the end.
func sawLost(t api.Tale, piece, hour int) api.Tale {
	t = copyTale(t)
	if hour == kept {
		t.Looks = append(t.Looks, api.Sight{Hour: api.MaxHour, There: 1 << piece})
	} else {
		t.Looks = append(t.Looks, api.Sight{Hour: hour, There: 1 << piece}, api.Sight{Hour: hour + 1, Gone: 1 << piece})
	}
	return t
}

func stands(t api.Tale) bool {
	_, e := lend.Clash(t)
	return e == api.ErrNone
}

// P8.7: a person can have lost each number from the least to the greatest one, and would not be refuted if it admitted it; no other one.
func TestEachNumber(t *testing.T) {
	var s seeds
	several := 0
	s.some(16, 400, func(_ made, x api.Tale) {
		for person, admits := range x.Admits {
			lost, e := lend.Lost(x, person)
			if (e == api.OK) != stands(x) {
				t.Fatalf("%v: Lost of %d has the error %d", x, person, e)
			}
			if e != api.OK || admits >= 0 {
				if e == api.OK && lost != span(admits, admits) {
					t.Errorf("%v: Lost of %d = %v", x, person, lost)
				}
				continue
			}
			for n := range 17 {
				other := copyTale(x)
				other.Admits[person] = n
				if stands(other) != (n >= lost.Lo && n <= lost.Hi) {
					t.Errorf("%v: Lost of %d = %v, but what if it admits %d?", x, person, lost, n)
				}
			}
			if lost.Lo > 0 && lost.Hi > lost.Lo+1 {
				several++
			}
		}
	})
	if several < 30 {
		t.Errorf("only %d persons have some numbers, but not none", several)
	}
}

// P8.7: with a look more nobody can have lost a piece that could not before, in no hour and no number that could not be.
func TestOneMoreLook(t *testing.T) {
	var s seeds
	fewer, none := 0, 0
	s.some(16, 200, func(m made, x api.Tale) {
		other := copyTale(x)
		other.Looks = slices.Insert(other.Looks, s.upTo(len(other.Looks)+1), s.look(m, turns(x)[s.upTo(len(turns(x)))], 3))
		a, b := ask(x, nil), ask(other, nil)
		for i := range b.who {
			if b.who[i]&^a.who[i] != 0 || a.gone[i] && !b.gone[i] && b.windows[i] != (api.Span{}) || b.windows[i] != (api.Span{}) && (b.windows[i].Lo < a.windows[i].Lo || b.windows[i].Hi > a.windows[i].Hi) {
				t.Errorf("%v: %v, but %v: %v", x, a, other, b)
			}
			if b.who[i] != 0 && b.who[i] != a.who[i] {
				fewer++
			}
		}
		if !stands(other) {
			none++
			return
		}
		for i := range b.lost {
			if b.lost[i].Lo < a.lost[i].Lo || b.lost[i].Hi > a.lost[i].Hi {
				t.Errorf("%v: %v, but %v: %v", x, a, other, b)
			}
		}
	})
	if min(fewer, none) < 100 {
		t.Errorf("of %d pieces fewer can have lost it; %d tales cannot be", fewer, none)
	}
}

// P8.7, P9, P13: the order of looks and loans makes no difference.
func TestOrder(t *testing.T) {
	var s seeds
	s.some(16, 150, func(_ made, x api.Tale) {
		hours := turns(x)
		was := ask(x, hours)
		for range 3 {
			other := copyTale(x)
			other.Loans = shuffled(&s, x.Loans)
			if a := ask(other, hours); !a.equal(was) {
				t.Errorf("%v: %v, but %v: %v", x, was, other, a)
			}
			other.Looks = shuffled(&s, x.Looks)
			a := ask(other, hours)
			if !a.unordered().equal(was.unordered()) || (a.clash == len(x.Looks)) != (was.clash == len(x.Looks)) {
				t.Errorf("%v: %v, but %v: %v", x, was, other, a)
			}
		}
	})
}

// Clash: the looks before the one that it returns can be true, with it they cannot.
func TestClashIsTheFirst(t *testing.T) {
	var s seeds
	looks, admits := 0, 0
	s.some(16, 300, func(_ made, x api.Tale) {
		n, e := lend.Clash(x)
		if e == api.ErrNone {
			return
		}
		for i := range len(x.Admits) {
			x.Admits[i] = -1
		}
		all := x.Looks
		x.Looks = all[:n]
		if !stands(x) {
			t.Errorf("%v: Clash = %d, but the looks before it cannot be", x, n)
		}
		if n == len(all) {
			admits++
			return
		}
		looks++
		x.Looks = all[:n+1]
		if stands(x) {
			t.Errorf("%v: Clash = %d, but it can be", x, n)
		}
	})
	if min(looks, admits) < 50 {
		t.Errorf("%d looks cannot be, of %d tales what is admitted", looks, admits)
	}
}

// P8.7: it makes no difference that a loan is told as two, one after the other.
func TestLoansInTwo(t *testing.T) {
	var s seeds
	told := 0
	s.some(16, 300, func(_ made, x api.Tale) {
		i := s.upTo(len(x.Loans) + 1)
		if i == len(x.Loans) || i == api.MaxLoans || len(x.Loans) == api.MaxLoans || x.Loans[i].To-x.Loans[i].From < 2 {
			return
		}
		told++
		other := copyTale(x)
		l := &other.Loans[i]
		second := *l
		l.To = l.From + 1 + s.upTo(l.To-l.From-1)
		second.From = l.To
		other.Loans = slices.Insert(other.Loans, s.upTo(len(x.Loans)+1), second)
		hours := turns(x)
		if a, b := ask(x, hours), ask(other, hours); !a.equal(b) {
			t.Errorf("%v: %v, but %v: %v", x, a, other, b)
		}
	})
	if told < 200 {
		t.Errorf("only %d loans were told as two", told)
	}
}

// Other numbers of pieces and persons make no difference.
func TestOtherNumbers(t *testing.T) {
	var s seeds
	s.some(16, 100, func(_ made, x api.Tale) {
		pieces, persons := s.order(x.Pieces), s.order(len(x.Admits))
		other := copyTale(x)
		for i, n := range persons {
			other.Admits[n] = x.Admits[i]
		}
		for i, l := range x.Loans {
			other.Loans[i].Person = persons[l.Person]
		}
		for i, look := range x.Looks {
			other.Looks[i].There, other.Looks[i].Gone = moved(look.There, pieces), moved(look.Gone, pieces)
		}
		a, b := ask(x, nil), ask(other, nil)
		if a.clash != b.clash {
			t.Errorf("%v: Clash = %d, but %v: %d", x, a.clash, other, b.clash)
		}
		for i, n := range pieces {
			if b.windows[n] != a.windows[i] || b.gone[n] != a.gone[i] || b.who[n] != moved(a.who[i], persons) {
				t.Errorf("%v: %v, but %v: %v", x, a, other, b)
			}
		}
		for i, n := range persons {
			if b.lost[n] != a.lost[i] {
				t.Errorf("%v: %v, but %v: %v", x, a, other, b)
			}
		}
	})
}

// moved returns a set in which each number is another one, those that have no other one as they are.
func moved(set int, to []int) int {
	other := set >> len(to) << len(to)
	for i, n := range to {
		other |= set >> i & 1 << n
	}
	return other
}

// P8.6, R4: arguments stay as they are, and so do results.
func TestMemory(t *testing.T) {
	var s seeds
	s.some(16, 50, func(_ made, x api.Tale) {
		was := copyTale(x)
		hours := turns(x)
		a := ask(x, hours)
		if b := ask(x, hours); !a.equal(b) {
			t.Errorf("%v: %v, then %v", x, a, b)
		}
		if !sameTale(x, was) {
			t.Errorf("%v was %v", x, was)
		}
		other := copyTale(x)
		for i, l := range [][]int{nil, {}} {
			other.Looks = [][]api.Sight{nil, {}}[i]
			other.Loans = [][]api.Loan{nil, {}}[i]
			if a, b := ask(other, l), slowAsk(other, l); len(x.Admits)*x.Pieces < 20 && !a.equal(b) {
				t.Errorf("%v: %v, not %v", other, a, b)
			}
		}
	})
}

// P1, R2: any arguments.
func TestAnyArguments(t *testing.T) {
	var s seeds
	odd := append(badNumbers(16), 0, 1, 2, 5, 15, 17, 1<<16, api.MaxHour-1, api.MaxHour)
	good, bad := 0, 0
	s.some(16, 1500, func(_ made, x api.Tale) {
		x = copyTale(x)
		n := odd[s.upTo(len(odd))]
		fields := []*int{&x.Pieces}
		for i := range x.Admits {
			fields = append(fields, &x.Admits[i])
		}
		for i := range x.Loans {
			fields = append(fields, &x.Loans[i].Person, &x.Loans[i].From, &x.Loans[i].To)
		}
		for i := range x.Looks {
			fields = append(fields, &x.Looks[i].Hour, &x.Looks[i].There, &x.Looks[i].Gone)
		}
		*fields[s.upTo(len(fields))] = n
		if isTale(x) {
			good++
			checkValid(t, x)
			return
		}
		bad++
		for _, n := range []int{0, n, s.upTo(20)} {
			checkErrors(t, x, n, api.ErrArg)
		}
		if n, e := lend.Clash(x); n != 0 || e != api.ErrArg {
			t.Errorf("%v: Clash = %d, error %d", x, n, e)
		}
	})
	if min(good, bad) < 500 {
		t.Errorf("%d tales are valid, %d are not", good, bad)
	}
}

// checkValid checks that nothing that is asked of a valid tale is refused, but for what no truth fits.
func checkValid(t *testing.T, x api.Tale) {
	t.Helper()
	a := ask(x, []int{0, api.MaxHour - 1})
	clash := a.errors[len(a.errors)-1]
	for _, e := range a.errors[:len(a.errors)-1] {
		if e != api.OK && e != api.ErrState || e == api.ErrState && clash != api.OK {
			t.Errorf("%v: errors %v", x, a.errors)
		}
	}
	if clash != api.OK && clash != api.ErrNone {
		t.Errorf("%v: errors %v", x, a.errors)
	}
}
