package scale_test

import (
	"math"
	"slices"
	"testing"

	"jigworks/api"
	"jigworks/scale"
)

// P6.1, P6, P3: all truths, piece by piece, and both ends of them.
func TestReadsInTruth(t *testing.T) {
	var s seeds
	scales, cameras := 0, 0
	for range 300 {
		b := s.box()
		for _, has := range slowLists(b) {
			x := s.test(b)
			got, e := scale.Reads(b, has, x)
			set := slowReads(b, has, x)
			if got != mostly(set) || len(set) != got.Hi-got.Lo+1 || e != api.OK {
				t.Fatalf("%v, %v, %v: Reads = %v, error %d, not %v", b, has, x, got, e, mostly(set))
			}
			if x.How == api.TestScale {
				scales++
			} else {
				cameras++
			}
		}
	}
	if min(scales, cameras) < 500 {
		t.Errorf("%d scales, %d cameras", scales, cameras)
	}
}

// P6.1: just the lists that a box can have are read.
func TestListsOfABox(t *testing.T) {
	var s seeds
	var oks, others int
	for range 2000 {
		b := s.box()
		var has []int
		for range len(b.Kinds) + s.upTo(12)/11 - s.upTo(12)/11 {
			has = append(has, s.upTo(7)-3)
		}
		want := api.ErrRange
		if slices.ContainsFunc(slowLists(b), func(l []int) bool { return slices.Equal(l, has) }) {
			want = api.OK
			oks++
		} else {
			others++
		}
		if _, e := scale.Reads(b, has, weigh(span(0, 0))); e != want {
			t.Fatalf("%v: Reads of %v has the error %d, not %d", b, has, e, want)
		}
	}
	if min(oks, others) < 200 {
		t.Errorf("%d lists that a box can have, %d others", oks, others)
	}
}

// P6.2, P6.3: all lists in all truths.
func TestReadingsInTruth(t *testing.T) {
	var s seeds
	var judged [4]int
	for range 3000 {
		b := s.box()
		l := s.readings(b, s.upTo(5))
		want, e := slowJudge(b, l)
		if n, f := scale.Judge(b, l); n != want || f != e {
			t.Fatalf("%v, %v: Judge = %d, error %d, not %d, %d", b, l, n, f, want, e)
		}
		spans, e := slowLeft(b, l)
		if got, f := scale.Left(b, l); !slices.Equal(got, spans) || f != e {
			t.Fatalf("%v, %v: Left = %v, error %d, not %v, %d", b, l, got, f, spans, e)
		}
		if e != api.OK {
			want = 3
		}
		judged[want]++
	}
	if slices.Min(judged[:]) < 150 {
		t.Errorf("judged never, perhaps, always, not at all: %v", judged)
	}
}

// P6.4, P6.5: all lists in all truths, and all sets of tests.
func TestTestsInTruth(t *testing.T) {
	var s seeds
	var slipping, alone, tied, several int
	for range 4000 {
		b := s.box()
		tests := s.tests(b, s.upTo(7))
		has, e := slowSlips(b, tests)
		if got, f := scale.Slips(b, tests); !slices.Equal(got, has) || f != e {
			t.Fatalf("%v, %v: Slips = %v, error %d, not %v, %d", b, tests, got, f, has, e)
		}
		set, cost, many, e := slowEnough(b, tests)
		if i, n, f := scale.Enough(b, tests); i != set || n != cost || f != e {
			t.Fatalf("%v, %v: Enough = %b, %d, error %d, not %b, %d, %d", b, tests, i, n, f, set, cost, e)
		}
		switch {
		case e != api.OK:
			slipping++
		case many > 1:
			tied++
		default:
			alone++
		}
		if len(chosen(tests, set)) > 1 {
			several++
		}
	}
	if min(slipping, alone, tied, several) < 50 {
		t.Errorf("%d have a list that slips through, %d one best set, %d several; %d need several tests", slipping, alone, tied, several)
	}
}

// P6.6: all lists in all truths, and all tests.
func TestNextInTruth(t *testing.T) {
	var s seeds
	var sure, none, alone, tied int
	for range 2500 {
		b := s.box()
		l, tests := s.readings(b, s.upTo(3)), s.tests(b, s.upTo(6))
		want, many, e := slowNext(b, l, tests)
		if n, f := scale.Next(b, l, tests); n != want || f != e {
			t.Fatalf("%v, %v, %v: Next = %d, error %d, not %d, %d", b, l, tests, n, f, want, e)
		}
		switch {
		case e == api.ErrState:
			sure++
		case e == api.ErrNone:
			none++
		case many > 1:
			tied++
		default:
			alone++
		}
	}
	if min(sure, none, alone, tied) < 50 {
		t.Errorf("%d have no doubt, %d no test that settles it, %d one cheapest, %d several", sure, none, alone, tied)
	}
}

// large returns a box of many heavy pieces.
func (s *seeds) large() api.Box {
	b := api.Box{Bag: s.span(0, api.MaxHeavy, 500), Lost: s.upTo(api.MaxLost + 1), Extra: s.upTo(api.MaxExtra + 1)}
	for range 1 + s.upTo(api.MaxBoxKinds) {
		b.Kinds = append(b.Kinds, api.Kind{Many: s.upTo(60), Weight: s.span(0, api.MaxHeavy, 10)})
	}
	b.Kinds[0].Many = s.upTo(api.MaxOf + 1)
	return b
}

// has returns a list that a box can have.
func (s *seeds) has(b api.Box) []int {
	has := make([]int, len(b.Kinds))
	for range s.upTo(b.Lost + 1) {
		if kind := s.upTo(len(has)); has[kind] > -b.Kinds[kind].Many && has[kind] <= 0 {
			has[kind]--
		}
	}
	for range s.upTo(b.Extra + 1) {
		if kind := s.upTo(len(has)); has[kind] >= 0 {
			has[kind]++
		}
	}
	return has
}

// truth returns what a test reads of a box in some truth: of each piece, of the bag and of the error some number of its span, often one at an end.
func (s *seeds) truth(b api.Box, has []int, t api.Test) int {
	some := s.upTo(3)
	of := func(x api.Span) int { return []int{x.Lo, x.Hi, s.within(x)}[some] }
	n := of(t.Err)
	if t.How == api.TestScale {
		n += of(b.Bag)
	}
	for kind, k := range b.Kinds {
		for range k.Many + has[kind] {
			if t.How == api.TestScale {
				n += of(k.Weight)
			} else if t.Kinds&(1<<kind) != 0 {
				n++
			}
		}
	}
	return n
}

// largeTest returns a test of a large box, which a complete box passes in some truth.
func (s *seeds) largeTest(b api.Box) api.Test {
	t := api.Test{How: s.upTo(2), Kinds: s.upTo(1 << len(b.Kinds)), Err: s.span(-3, 2, s.upTo(4)), Cost: s.upTo(9)}
	if t.How == api.TestScale {
		t.Err = s.span(-900, 900, 300)
	}
	n := s.truth(b, make([]int, len(b.Kinds)), t)
	t.Pass = span(n-s.upTo(3), n+s.upTo(3))
	return t
}

// P6.7, P6, P3: the list of the true box fits, and what is judged is so.
func TestTheTrueBox(t *testing.T) {
	var s seeds
	var judged [3]int
	for range 1500 {
		b := s.large()
		has := s.has(b)
		var l []api.Reading
		for range s.upTo(5) {
			x := s.largeTest(b)
			l = append(l, api.Reading{Test: x, Got: s.truth(b, has, x)})
		}
		n, e := scale.Judge(b, l)
		if complete := slices.Min(has) >= 0; e != api.OK || n == api.WholeAlways && !complete || n == api.WholeNever && complete {
			t.Fatalf("%v, %v: Judge = %d, error %d, of %v", b, l, n, e, has)
		}
		judged[n]++
		spans, e := scale.Left(b, l)
		if e != api.OK || len(spans) != len(has) {
			t.Fatalf("%v, %v: Left = %v, error %d", b, l, spans, e)
		}
		for kind, x := range spans {
			if has[kind] < x.Lo || has[kind] > x.Hi {
				t.Fatalf("%v, %v: Left = %v, without %v", b, l, spans, has)
			}
		}
	}
	if slices.Min(judged[:]) < 150 {
		t.Errorf("judged never, perhaps, always: %v", judged)
	}
}

// P6.7: no incomplete box passes tests that are enough.
func TestEnoughIsEnough(t *testing.T) {
	var s seeds
	caught, slipped := 0, 0
	for range 1500 {
		b := s.large()
		var tests []api.Test
		for range s.upTo(6) {
			tests = append(tests, s.largeTest(b))
		}
		set, _, e := scale.Enough(b, tests)
		for range 5 {
			has := s.has(b)
			if slices.Min(has) >= 0 {
				continue
			}
			fails := func(x api.Test) bool { n := s.truth(b, has, x); return n < x.Pass.Lo || n > x.Pass.Hi }
			if slices.ContainsFunc(chosen(tests, set), fails) {
				caught++
			} else if e == api.OK {
				t.Fatalf("%v, %v: Enough = %b, but %v passes", b, tests, set, has)
			} else {
				slipped++
			}
		}
	}
	if min(caught, slipped) < 500 {
		t.Errorf("%d are caught, %d slip through", caught, slipped)
	}
}

// P6.8: no cheaper set is enough, and none of the tests can be left out.
func TestNoneCanBeLeftOut(t *testing.T) {
	var s seeds
	sets := 0
	for range 2000 {
		b := s.box()
		tests := s.tests(b, 1+s.upTo(8))
		set, cost, e := scale.Enough(b, tests)
		if e != api.OK {
			continue
		}
		if has, f := scale.Slips(b, chosen(tests, set)); f != api.ErrNone || costOf(chosen(tests, set)) != cost {
			t.Fatalf("%v, %v: Enough = %b, %d, but %v slips", b, tests, set, cost, has)
		}
		for i := range 1 << len(tests) {
			if l := chosen(tests, i); costOf(l) < cost || i&set == i && i != set {
				sets++
				if _, f := scale.Slips(b, l); f != api.OK {
					t.Fatalf("%v, %v: Enough = %b, %d, but %b is enough", b, tests, set, cost, i)
				}
			}
		}
	}
	if sets < 1000 {
		t.Errorf("only %d sets cost less, or are a part of the best one", sets)
	}
}

// doubtful returns whether a test can read a number after which a doubt is left.
func doubtful(t *testing.T, b api.Box, l []api.Reading, x api.Test) bool {
	t.Helper()
	some := false
	for _, has := range slowLists(b) {
		s, e := scale.Reads(b, has, x)
		if e != api.OK {
			t.Fatalf("%v, %v, %v: Reads has the error %d", b, has, x, e)
		}
		for n := s.Lo; n <= s.Hi && !some; n++ {
			judged, e := scale.Judge(b, append(slices.Clip(l), read(x, n)...))
			some = e == api.OK && judged == api.WholePerhaps
		}
	}
	return some
}

// P6.8: with what the test reads that settles a doubt, whatever it is, there is none; no cheaper test does so.
func TestWhatSettlesADoubtDoes(t *testing.T) {
	var s seeds
	settled, unsettled := 0, 0
	for range 400 {
		b := s.box()
		l, tests := s.readings(b, s.upTo(2)), s.tests(b, 1+s.upTo(5))
		n, e := scale.Next(b, l, tests)
		if e == api.ErrState {
			continue
		}
		for i, x := range tests {
			some := doubtful(t, b, l, x)
			if e == api.OK && i == n && some || (e != api.OK || x.Cost < tests[n].Cost) && !some {
				t.Fatalf("%v, %v, %v: Next = %d, error %d, but %d leaves a doubt: %v", b, l, tests, n, e, i, some)
			}
		}
		if e == api.OK {
			settled++
		} else {
			unsettled++
		}
	}
	if min(settled, unsettled) < 50 {
		t.Errorf("%d are settled, %d are not", settled, unsettled)
	}
}

// checkLess checks that some readings say no less than others.
func checkLess(t *testing.T, b api.Box, more, l []api.Reading) {
	t.Helper()
	before, e := scale.Judge(b, l)
	after, f := scale.Judge(b, more)
	if e == api.OK && f == api.OK && before != api.WholePerhaps && after != before || e != api.OK && f != e {
		t.Fatalf("%v, %v: Judge = %d, error %d; %v: %d, %d", b, l, before, e, more, after, f)
	}
	wide, _ := scale.Left(b, l)
	narrow, f := scale.Left(b, more)
	for kind, s := range narrow {
		if s.Lo > s.Hi || s.Lo < wide[kind].Lo || s.Hi > wide[kind].Hi {
			t.Fatalf("%v, %v: Left = %v, error %d; %v: %v", b, l, wide, f, more, narrow)
		}
	}
}

// P6.9, P13: a reading more, readings in another order, and readings that are there twice.
func TestMoreReadings(t *testing.T) {
	var s seeds
	for range 1500 {
		b := s.box()
		l, tests := s.readings(b, 1+s.upTo(5)), s.tests(b, s.upTo(4))
		for i := range l {
			checkLess(t, b, l[:i+1], l[:i])
		}
		other := slices.Clone(l)
		for i := range other {
			j := s.upTo(i + 1)
			other[i], other[j] = other[j], other[i]
		}
		other = append(other, l[s.upTo(len(l))])
		n, e := scale.Judge(b, l)
		if m, f := scale.Judge(b, other); m != n || f != e {
			t.Fatalf("%v, %v: Judge = %d, error %d; %v: %d, %d", b, l, n, e, other, m, f)
		}
		spans, e := scale.Left(b, l)
		if got, f := scale.Left(b, other); !slices.Equal(got, spans) || f != e {
			t.Fatalf("%v, %v: Left = %v, error %d; %v: %v, %d", b, l, spans, e, other, got, f)
		}
		n, e = scale.Next(b, l, tests)
		if m, f := scale.Next(b, other, tests); m != n || f != e {
			t.Fatalf("%v, %v: Next = %d, error %d; %v: %d, %d", b, l, n, e, other, m, f)
		}
	}
}

// narrower returns a box and tests with narrower spans of weights and errors.
func (s *seeds) narrower(b api.Box, tests []api.Test) (api.Box, []api.Test) {
	b.Kinds, tests = slices.Clone(b.Kinds), slices.Clone(tests)
	b.Bag = s.narrowed(b.Bag)
	for i := range b.Kinds {
		b.Kinds[i].Weight = s.narrowed(b.Kinds[i].Weight)
	}
	for i := range tests {
		tests[i].Err = s.narrowed(tests[i].Err)
	}
	return b, tests
}

// slips returns whether a list that is not complete passes in some truth, and whether Slips says so.
func slips(t *testing.T, b api.Box, tests []api.Test) bool {
	t.Helper()
	has, e := scale.Slips(b, tests)
	if e == api.OK && slices.Min(has) >= 0 || e != api.OK && e != api.ErrNone {
		t.Fatalf("%v, %v: Slips = %v, error %d", b, tests, has, e)
	}
	return e == api.OK
}

// P6.9, P3: with narrower spans no box slips that did not; with more lost or extra pieces none is caught that was not.
func TestNarrowerAndMore(t *testing.T) {
	var s seeds
	var narrow, more [2]int
	for range 2500 {
		b := s.box()
		tests := s.tests(b, s.upTo(4))
		before := slips(t, b, tests)
		c, less := s.narrower(b, tests)
		if after := slips(t, c, less); after && !before {
			t.Fatalf("%v, %v: a box slips that did not: %v, %v", b, tests, c, less)
		} else if after != before {
			narrow[0]++
		} else {
			narrow[1]++
		}
		c = b
		c.Lost += s.upTo(api.MaxLost - b.Lost + 1)
		c.Extra += s.upTo(api.MaxExtra - b.Extra + 1)
		if after := slips(t, c, tests); before && !after {
			t.Fatalf("%v, %v: a box is caught that was not: %v", b, tests, c)
		} else if after != before {
			more[0]++
		} else {
			more[1]++
		}
	}
	if slices.Min(narrow[:]) < 50 || slices.Min(more[:]) < 50 {
		t.Errorf("with narrower spans it is otherwise, and the same: %v; with more lost or extra: %v", narrow, more)
	}
}

// turned returns a box and a test with their kinds the other way round.
func turned(b api.Box, t api.Test) (api.Box, api.Test) {
	b.Kinds = slices.Clone(b.Kinds)
	slices.Reverse(b.Kinds)
	set := 0
	for kind := range b.Kinds {
		if t.Kinds&(1<<kind) != 0 {
			set |= 1 << (len(b.Kinds) - 1 - kind)
		}
	}
	t.Kinds = set
	return b, t
}

// P13: other numbers of kinds, and tests in another order.
func TestOtherNumbers(t *testing.T) {
	var s seeds
	for range 600 {
		b := s.box()
		l, tests := s.readings(b, s.upTo(4)), s.tests(b, s.upTo(5))
		var m []api.Reading
		c := b
		for _, r := range l {
			var x api.Test
			c, x = turned(b, r.Test)
			m = append(m, api.Reading{Test: x, Got: r.Got})
		}
		n, e := scale.Judge(b, l)
		if k, f := scale.Judge(c, m); k != n || f != e {
			t.Fatalf("%v, %v: Judge = %d, error %d; %v, %v: %d, %d", b, l, n, e, c, m, k, f)
		}
		spans, e := scale.Left(b, l)
		got, f := scale.Left(c, m)
		if len(l) > 0 {
			slices.Reverse(got)
		}
		if !slices.Equal(got, spans) || f != e {
			t.Fatalf("%v, %v: Left = %v, error %d; %v, %v: %v, %d", b, l, spans, e, c, m, got, f)
		}
		_, cost, e := scale.Enough(b, tests)
		slices.Reverse(tests)
		if _, k, f := scale.Enough(b, tests); k != cost || f != e {
			t.Fatalf("%v, %v: Enough = %d, error %d, not %d, %d", b, tests, k, f, cost, e)
		}
	}
}

// R3, R4: results are new memory, and no argument is changed; nil and empty are the same.
func TestMemory(t *testing.T) {
	var s seeds
	for range 200 {
		b := s.box()
		l, tests := s.readings(b, s.upTo(4)), s.tests(b, s.upTo(5))
		kinds, m, others := slices.Clone(b.Kinds), slices.Clone(l), slices.Clone(tests)
		has := make([]int, len(b.Kinds))
		scale.Reads(b, has, weigh(span(0, 0)))
		spans, _ := scale.Left(b, l)
		scale.Judge(b, l)
		slip, _ := scale.Slips(b, tests)
		scale.Enough(b, tests)
		scale.Next(b, l, tests)
		want, first := slices.Clone(spans), slices.Clone(slip)
		for i := range spans {
			spans[i] = span(99, 99)
		}
		for i := range slip {
			slip[i] = 99
		}
		if !slices.Equal(b.Kinds, kinds) || !slices.Equal(l, m) || !slices.Equal(tests, others) || slices.Max(has) != 0 || slices.Min(has) != 0 {
			t.Fatalf("an argument has changed")
		}
		again, _ := scale.Left(b, l)
		twice, _ := scale.Slips(b, tests)
		if !slices.Equal(again, want) || !slices.Equal(twice, first) {
			t.Fatalf("a result has changed")
		}
	}
	for _, b := range []api.Box{exampleBox(), boxOf(0, 0, 1)} {
		n, e := scale.Judge(b, nil)
		if m, f := scale.Judge(b, []api.Reading{}); m != n || f != e {
			t.Errorf("no readings: Judge = %d, %d, error %d, %d", m, n, e, f)
		}
		set, cost, e := scale.Enough(b, nil)
		if i, k, f := scale.Enough(b, []api.Test{}); i != set || k != cost || f != e {
			t.Errorf("no tests: Enough = %d, %d, %d, %d, error %d, %d", i, set, k, cost, e, f)
		}
	}
}

// anything returns some number, often one that is at a bound.
func (s *seeds) anything() int {
	l := []int{0, 0, 0, 0, 1, 1, 2, 3, 3, 4, 5, 7, 8, 15, 16, -1, 2000, 2001, 10000, 10001, 100000, 100001, 1000000, 1000001, -1000000, -1000001, math.MaxInt, math.MinInt, 1 << 32}
	return l[s.upTo(len(l))]
}

func (s *seeds) anySpan() api.Span { return span(s.anything(), s.anything()) }

// isIn returns whether a span is valid and within lo to hi, as the chapter says it.
func isIn(lo, hi int, s api.Span) bool { return s.Lo <= s.Hi && s.Lo >= lo && s.Hi <= hi }

// anyBox returns a box that may have something that is not valid.
func (s *seeds) anyBox() api.Box {
	b := s.large()
	switch s.upTo(20) {
	case 0:
		b.Kinds = b.Kinds[:0]
	case 1:
		b.Kinds = slices.Repeat(b.Kinds, 3)
	case 2:
		b.Kinds[s.upTo(len(b.Kinds))].Many = s.anything()
	case 3:
		b.Kinds[s.upTo(len(b.Kinds))].Weight = s.anySpan()
	case 4:
		b.Bag = s.anySpan()
	case 5:
		b.Lost = s.anything()
	case 6:
		b.Extra = s.anything()
	}
	return b
}

// boxIsValid says what the chapter says.
func boxIsValid(b api.Box) bool {
	return len(b.Kinds) >= 1 && len(b.Kinds) <= 4 && isIn(0, 100000, b.Bag) && b.Lost >= 0 && b.Lost <= 4 && b.Extra >= 0 && b.Extra <= 3 &&
		!slices.ContainsFunc(b.Kinds, func(k api.Kind) bool { return k.Many < 0 || k.Many > 2000 || !isIn(0, 100000, k.Weight) })
}

// anyTest returns a test that may have something that is not valid.
func (s *seeds) anyTest(kinds int) api.Test {
	t := api.Test{How: s.upTo(2), Kinds: s.upTo(1<<min(kinds, 4) + 1), Err: s.span(-3, 2, 4), Pass: s.span(0, 2000, 99), Cost: s.upTo(9)}
	switch s.upTo(30) {
	case 0:
		t.How = s.anything()
	case 1:
		t.Kinds = s.anything()
	case 2:
		t.Err = s.anySpan()
	case 3:
		t.Pass = s.anySpan()
	case 4:
		t.Cost = s.anything()
	}
	return t
}

// testIsValid says what the chapter says.
func testIsValid(b api.Box, t api.Test) bool {
	return (t.How == 0 || t.How == 1 && t.Kinds >= 0 && t.Kinds < 1<<len(b.Kinds)) && isIn(-1000000, 1000000, t.Err) && t.Pass.Lo <= t.Pass.Hi && t.Cost >= 0 && t.Cost <= 10000
}

// wanted returns the error that comes of a box, readings and tests.
func wanted(b api.Box, l []api.Reading, tests []api.Test) api.Errno {
	if !boxIsValid(b) {
		return api.ErrArg
	}
	if len(l) > 16 || len(tests) > 8 {
		return api.ErrLong
	}
	if slices.ContainsFunc(l, func(r api.Reading) bool { return !testIsValid(b, r.Test) }) || slices.ContainsFunc(tests, func(t api.Test) bool { return !testIsValid(b, t) }) {
		return api.ErrArg
	}
	return api.OK
}

// P1, R1, R2: any arguments.
func TestAnyArguments(t *testing.T) {
	var s seeds
	var errors [4]int
	for range 5000 {
		b := s.anyBox()
		var l []api.Reading
		var tests []api.Test
		for range s.upTo(2) * s.upTo(3) * s.upTo(10) {
			l = append(l, api.Reading{Test: s.anyTest(len(b.Kinds)), Got: s.upTo(2000)})
		}
		for range s.upTo(4) * s.upTo(4) {
			tests = append(tests, s.anyTest(len(b.Kinds)))
		}
		ofReadings, ofTests, ofBoth := wanted(b, l, nil), wanted(b, nil, tests), wanted(b, l, tests)
		errors[ofBoth]++
		if n, e := scale.Judge(b, l); ofReadings != api.OK && (n != 0 || e != ofReadings) || ofReadings == api.OK && e != api.OK && (e != api.ErrState || n != 0) {
			t.Fatalf("%v, %v: Judge = %d, error %d, not %d", b, l, n, e, ofReadings)
		}
		if x, e := scale.Left(b, l); ofReadings != api.OK && (len(x) != 0 || e != ofReadings) || ofReadings == api.OK && e != api.OK && (e != api.ErrState || len(x) != 0) {
			t.Fatalf("%v, %v: Left = %v, error %d, not %d", b, l, x, e, ofReadings)
		}
		if has, e := scale.Slips(b, tests); ofTests != api.OK && (len(has) != 0 || e != ofTests) || ofTests == api.OK && e != api.OK && (e != api.ErrNone || len(has) != 0) {
			t.Fatalf("%v, %v: Slips = %v, error %d, not %d", b, tests, has, e, ofTests)
		}
		if set, cost, e := scale.Enough(b, tests); ofTests != api.OK && (set != 0 || cost != 0 || e != ofTests) || ofTests == api.OK && e != api.OK && (e != api.ErrNone || set != 0 || cost != 0) {
			t.Fatalf("%v, %v: Enough = %d, %d, error %d, not %d", b, tests, set, cost, e, ofTests)
		}
		if n, e := scale.Next(b, l, tests); ofBoth != api.OK && (n != 0 || e != ofBoth) || ofBoth == api.OK && e != api.OK && (e != api.ErrNone && e != api.ErrState || n != 0) {
			t.Fatalf("%v, %v, %v: Next = %d, error %d, not %d", b, l, tests, n, e, ofBoth)
		}
	}
	if min(errors[api.OK], errors[api.ErrArg], errors[api.ErrLong]) < 200 {
		t.Errorf("errors: %v", errors)
	}
}
