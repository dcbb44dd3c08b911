package fit_test

import (
	"math"
	"slices"
	"testing"

	"jigworks/api"
	"jigworks/fit"
)

// P2.1, P2.2, P2.7, P3: what is said of two sides is what all their truths say.
func TestAllTruthsOfTwoSides(t *testing.T) {
	var s seeds
	var many [3]int
	for range 4000 {
		p, a, b := s.some(2)
		want := slowFit(p, a, b)
		many[want]++
		if n, e := fit.Fit(p, a, b); n != want || e != api.OK {
			t.Errorf("%v: Fit of %v and %v = %d, error %d, not %d", p, a, b, n, e, want)
		}
		if !paired(a, b) {
			continue
		}
		if g, e := fit.Between(p, a, b); g != slowBetween(p, a, b) || e != api.OK {
			t.Errorf("%v: Between of %v and %v = %v, error %d, not %v", p, a, b, g, e, slowBetween(p, a, b))
		}
	}
	for verdict, n := range many {
		if n < 200 {
			t.Errorf("only %d pairs of sides have the verdict %d", n, verdict)
		}
	}
}

// P2.3, P2.7: a worn side is around all that it can be, and no wider.
func TestAllTruthsOfWear(t *testing.T) {
	var s seeds
	for range 20000 {
		_, a, b := s.some(3)
		wear := s.near(3, 2)
		wear.Lo, wear.Hi = max(0, wear.Lo), max(0, wear.Hi)
		strokes := s.upTo(20001)
		if s.upTo(3) == 0 {
			strokes = 500 * s.upTo(41)
		}
		for _, x := range []api.Edge{a, b} {
			if x.Kind == api.EdgeFlat {
				continue
			}
			want := x
			want.Wide = slowWorn(x, wear, strokes)
			e := api.OK
			if want.Wide.Lo < 1 || want.Wide.Hi > api.MaxTab {
				want, e = api.Edge{}, api.ErrRefuse
			}
			if w, f := fit.Worn(x, wear, strokes); w != want || f != e {
				t.Errorf("Worn of %v with %v after %d = %v, error %d, not %v", x, wear, strokes, w, f, want)
			}
		}
	}
}

// P2.7: worn by parts of a hundredth, too, each truth is within what is returned.
func TestWearThatIsNoWholeNumber(t *testing.T) {
	var s seeds
	for range 3000 {
		wear := s.near(3, 2)
		wear.Lo, wear.Hi = max(0, wear.Lo), max(0, wear.Hi)
		strokes := s.upTo(15000)
		a := tab(span(5, 5), s.near(400, 3), span(5, 5))
		b := hole(span(5, 5), s.near(400, 3), span(5, 5))
		wornA, e := fit.Worn(a, wear, strokes)
		wornB, f := fit.Worn(b, wear, strokes)
		if e != api.OK || f != api.OK {
			t.Fatalf("Worn with %v after %d has the errors %d, %d", wear, strokes, e, f)
		}
		// The wear in sevenths.
		for by := 7 * wear.Lo; by <= 7*wear.Hi; by++ {
			for wide := range each(a.Wide) {
				if n := 7000*wide - by*strokes; n < 7000*wornA.Wide.Lo || n > 7000*wornA.Wide.Hi {
					t.Errorf("%v, worn to %v by %d sevenths after %d", a, wornA, by, strokes)
				}
			}
			for wide := range each(b.Wide) {
				if n := 7000*wide + by*strokes; n < 7000*wornB.Wide.Lo || n > 7000*wornB.Wide.Hi {
					t.Errorf("%v, worn to %v by %d sevenths after %d", b, wornB, by, strokes)
				}
			}
		}
	}
}

// fitsWorn returns whether sides fit always after some strokes, as Worn and Fit say.
func fitsWorn(p api.Play, a, b api.Edge, wear api.Span, strokes int) bool {
	x, e := fit.Worn(a, wear, strokes)
	y, f := fit.Worn(b, wear, strokes)
	n, _ := fit.Fit(p, x, y)
	return e == api.OK && f == api.OK && n == api.FitAlways
}

// wearing returns what can wear until it fits, or no longer does, or is refused.
func (s *seeds) wearing() (p api.Play, a, b api.Edge, wear api.Span) {
	p = api.Play{Length: 1000, Slack: 9, Loose: 10 + s.upTo(60), Damp: span(0, s.upTo(30))}
	wear = s.near(1+s.upTo(4), 1)
	wear.Lo = max(0, wear.Lo)
	wide := []int{20, 500, 2960}[s.upTo(3)]
	a = tab(s.near(400, 1), s.near(wide, 6), span(30, 31))
	b = hole(s.near(600, 1), s.near(wide+3, 9), span(32, 34))
	if s.upTo(20) == 0 {
		b.Deep = span(31-s.upTo(3), 34)
	}
	if s.upTo(2) == 0 {
		a, b = b, a
	}
	return p, a, b, wear
}

// P2.4, P2.8: after each number of strokes from the first to the last one, and after no other one.
func TestEachNumberOfStrokes(t *testing.T) {
	var s seeds
	some := 0
	for range 200 {
		p, a, b, wear := s.wearing()
		from, to, e := fit.Last(p, a, b, wear)
		if e != api.OK {
			from, to = 1, 0
		} else if from > 0 || to < api.MaxStrokes {
			some++
		}
		for n := range api.MaxStrokes + 1 {
			if fitsWorn(p, a, b, wear, n) != (n >= from && n <= to) {
				t.Fatalf("%v: Last of %v and %v with %v = %d, %d, error %d: not after %d", p, a, b, wear, from, to, e, n)
			}
		}
		if e != api.OK && e != api.ErrNone {
			t.Errorf("Last has the error %d", e)
		}
	}
	if some < 50 {
		t.Errorf("only %d pairs of sides fit for a time", some)
	}
}

// strokesOf returns how many numbers of strokes Last returns.
func strokesOf(p api.Play, a, b api.Edge, wear api.Span) int {
	from, to, e := fit.Last(p, a, b, wear)
	if e != api.OK {
		return 0
	}
	return to - from + 1
}

// P2.8: with a narrower wear there are no fewer strokes.
func TestNarrowerWear(t *testing.T) {
	var s seeds
	for range 5000 {
		p, a, b, wear := s.wearing()
		narrow := s.narrowed(wear)
		if n, m := strokesOf(p, a, b, wear), strokesOf(p, a, b, narrow); m < n {
			t.Errorf("%v: %v and %v fit %d times with %v, but %d times with %v", p, a, b, n, wear, m, narrow)
		}
		was, _, e := fit.Last(p, a, b, wear)
		from, _, f := fit.Last(p, a, b, narrow)
		if e == api.OK && (f != api.OK || from > was) {
			t.Errorf("%v: %v and %v fit from %d on with %v, but from %d on with %v", p, a, b, was, wear, from, narrow)
		}
	}
}

// P2.8: what is worn twice contains what is worn once.
func TestWornTwice(t *testing.T) {
	var s seeds
	for range 5000 {
		_, a, b, wear := s.wearing()
		one, other := s.upTo(10001), s.upTo(10001)
		for _, x := range []api.Edge{a, b} {
			all, e := fit.Worn(x, wear, one+other)
			half, f := fit.Worn(x, wear, one)
			if f != api.OK {
				if e == api.OK {
					t.Errorf("%v can be worn by %d strokes, but not by %d", x, one+other, one)
				}
				continue
			}
			twice, f := fit.Worn(half, wear, other)
			if f == api.OK && (e != api.OK || !contains(twice.Wide, all.Wide)) {
				t.Errorf("%v worn by %d and %d strokes is %v, by all of them %v, error %d", x, one, other, twice, all, e)
			}
			if f == api.OK && (twice.At != x.At || twice.Deep != x.Deep || twice.Kind != x.Kind) {
				t.Errorf("%v became %v", x, twice)
			}
		}
	}
}

// P2.9: what is allowed more, or known better, is as it was.
func TestMoreIsAllowedOrKnown(t *testing.T) {
	var s seeds
	for range 20000 {
		p, a, b := s.some(6)
		was, _ := fit.Fit(p, a, b)
		more := p
		more.Slack += s.upTo(3)
		more.Loose += s.upTo(3)
		if n, e := fit.Fit(more, a, b); n < was || e != api.OK {
			t.Errorf("%v, %v: %d with %v, but %d with %v", a, b, was, p, n, more)
		}
		known := p
		known.Damp = s.narrowed(p.Damp)
		x, y := s.narrowedSide(a), s.narrowedSide(b)
		n, e := fit.Fit(known, x, y)
		if e != api.OK || was == api.FitAlways && n != was || was == api.FitNever && n != was {
			t.Errorf("%v, %v, %v: %d, but %d for %v, %v, %v", p, a, b, was, n, known, x, y)
		}
		g, _ := fit.Between(p, a, b)
		if h, e := fit.Between(known, x, y); e == api.OK && !(contains(g.At, h.At) && contains(g.Wide, h.Wide) && contains(g.Deep, h.Deep)) {
			t.Errorf("%v, %v, %v: %v, but %v for %v, %v, %v", p, a, b, g, h, known, x, y)
		}
	}
}

// P2.9, P13: the order of two sides makes no difference.
func TestOrderOfTwoSides(t *testing.T) {
	var s seeds
	for range 5000 {
		p, a, b := s.some(4)
		n, e := fit.Fit(p, a, b)
		if m, f := fit.Fit(p, b, a); m != n || f != e {
			t.Errorf("Fit of %v and %v is %d, error %d, and %d, error %d", a, b, n, e, m, f)
		}
		g, e := fit.Between(p, a, b)
		if h, f := fit.Between(p, b, a); h != g || f != e {
			t.Errorf("Between of %v and %v is %v, error %d, and %v, error %d", a, b, g, e, h, f)
		}
		from, to, e := fit.Last(p, a, b, span(1, 2))
		if x, y, f := fit.Last(p, b, a, span(1, 2)); x != from || y != to || f != e {
			t.Errorf("Last of %v and %v is %d, %d, error %d, and %d, %d, error %d", a, b, from, to, e, x, y, f)
		}
	}
}

// P2.5, P2.9, P13: each side of a list is as Fit says, in whatever order.
func TestMatchesSideBySide(t *testing.T) {
	var s seeds
	for range 500 {
		p, a, _ := s.some(3)
		var l []api.Edge
		for range s.upTo(api.MaxEdges + 1) {
			_, x, y := s.some(3)
			l = append(l, []api.Edge{x, y, flat()}[s.upTo(3)])
		}
		var sure, may []int
		for i, x := range l {
			n, _ := fit.Fit(p, a, x)
			if n == api.FitAlways {
				sure = append(sure, i)
			}
			if n != api.FitNever {
				may = append(may, i)
			}
		}
		got, all, e := fit.Matches(p, a, l)
		if !slices.Equal(got, sure) || !slices.Equal(all, may) || e != api.OK {
			t.Errorf("%v: Matches of %v in %v = %v, %v, error %d", p, a, l, got, all, e)
		}
		slices.Reverse(l)
		back, allBack, _ := fit.Matches(p, a, l)
		for i := range back {
			back[i] = len(l) - 1 - back[i]
		}
		for i := range allBack {
			allBack[i] = len(l) - 1 - allBack[i]
		}
		slices.Reverse(back)
		slices.Reverse(allBack)
		if !slices.Equal(back, sure) || !slices.Equal(allBack, may) {
			t.Errorf("%v: Matches of %v in %v, from behind, = %v, %v", p, a, l, back, allBack)
		}
	}
}

// P2.6: the first pairing, and the second one, of all orders of holes.
func TestAllPairings(t *testing.T) {
	var s seeds
	var many [3]int
	for range 1500 {
		p, tabs, holes := s.mates(s.upTo(6))
		found := slowPairings(p, tabs, holes, func(i, j int) bool {
			n, _ := fit.Fit(p, tabs[i], holes[j])
			return n != api.FitNever
		})
		many[min(2, len(found))]++
		with, other, e := fit.Pairs(p, tabs, holes)
		if len(found) == 0 {
			if len(with)+len(other) > 0 || e != api.ErrNone {
				t.Errorf("%v: Pairs of %v and %v = %v, %v, error %d", p, tabs, holes, with, other, e)
			}
			continue
		}
		var second []int
		if len(found) > 1 {
			second = found[1]
		}
		if !slices.Equal(with, found[0]) || !slices.Equal(other, second) || e != api.OK {
			t.Errorf("%v: Pairs of %v and %v = %v, %v, error %d, not %v", p, tabs, holes, with, other, e, found)
		}
		slices.Reverse(tabs)
		slices.Reverse(holes)
		a, b, f := fit.Pairs(p, tabs, holes)
		if f != e || len(a) != len(with) || len(b) != len(other) {
			t.Errorf("%v: Pairs of %v and %v, from behind, = %v, %v, error %d", p, tabs, holes, a, b, f)
		}
	}
	if slices.Min(many[:]) < 50 {
		t.Errorf("no pairing, one and more: %v", many)
	}
}

// trueSide returns a side as it truly is, somewhere within a side.
func (s *seeds) trueSide(x api.Edge) api.Edge {
	exact := func(y api.Span) api.Span {
		n := y.Lo + s.upTo(y.Hi-y.Lo+1)
		return span(n, n)
	}
	return api.Edge{Kind: x.Kind, At: exact(x.At), Wide: exact(x.Wide), Deep: exact(x.Deep)}
}

// P2.7: if there is no other pairing, tabs go into holes in no other way, however they truly are; if there is none, in no way.
func TestPairingsInTruth(t *testing.T) {
	var s seeds
	for range 1500 {
		p, tabs, holes := s.mates(s.upTo(5))
		with, other, e := fit.Pairs(p, tabs, holes)
		if len(other) > 0 {
			continue
		}
		for range 20 {
			x := truth{damp: p.Damp.Lo + s.upTo(p.Damp.Hi-p.Damp.Lo+1)}
			trueTabs, trueHoles := slices.Clone(tabs), slices.Clone(holes)
			for i := range tabs {
				trueTabs[i], trueHoles[i] = s.trueSide(tabs[i]), s.trueSide(holes[i])
			}
			found := slowPairings(p, trueTabs, trueHoles, func(i, j int) bool {
				a, b := trueTabs[i], trueHoles[j]
				x.at, x.wide, x.deep = [2]int{a.At.Lo, b.At.Lo}, [2]int{a.Wide.Lo, b.Wide.Lo}, [2]int{a.Deep.Lo, b.Deep.Lo}
				return fitsIn(p, a, b, x)
			})
			for _, l := range found {
				if e != api.OK || !slices.Equal(l, with) {
					t.Errorf("%v: %v go into %v as %v, but Pairs = %v, error %d", p, trueTabs, trueHoles, l, with, e)
				}
			}
		}
	}
}

// R4: no argument is changed, not even behind its end, and results are new each time.
func TestArgumentsAndResults(t *testing.T) {
	l := append([]api.Edge{sideB(), sideC(), sideB()}, sideD(), sideD())[:3]
	tabs := append([]api.Edge{sideA(), sideA(), sideE()}, sideF())[:3]
	was, were := slices.Clone(l[:5]), slices.Clone(tabs[:4])
	for range 2 {
		sure, may, _ := fit.Matches(play(), sideA(), l)
		clear(sure)
		if !slices.Equal(may, []int{0, 1, 2}) {
			t.Errorf("Matches = %v", may)
		}
		clear(may)
		with, other, _ := fit.Pairs(play(), tabs, l)
		if !slices.Equal(with, []int{0, 1, 2}) {
			t.Errorf("Pairs = %v", with)
		}
		clear(with)
		if !slices.Equal(other, []int{0, 2, 1}) {
			t.Errorf("Pairs = %v", other)
		}
		clear(other)
		if !slices.Equal(l[:5], was) || !slices.Equal(tabs[:4], were) {
			t.Fatalf("the sides are %v and %v now", l, tabs)
		}
	}
}

// P1: each function ends, whatever it is given.
func TestAnyArguments(t *testing.T) {
	numbers := []int{math.MinInt, -1, 0, 1, 1000, 3000, 20000, 20001, math.MaxInt}
	var spans []api.Span
	for _, lo := range numbers {
		for _, hi := range numbers {
			spans = append(spans, span(lo, hi))
		}
	}
	sides := append(goodSides(), badSides()...)
	for _, s := range spans {
		for _, kind := range []int{math.MinInt, 0, 1, 2, 3} {
			sides = append(sides, api.Edge{Kind: kind, At: s, Wide: s, Deep: s})
		}
	}
	allowed := append(plays(), badPlays()...)
	for _, s := range spans {
		allowed = append(allowed, api.Play{Length: s.Lo, Slack: s.Hi, Loose: s.Lo, Damp: s})
	}
	for i, a := range sides {
		for _, wear := range spans {
			for _, n := range numbers {
				fit.Worn(a, wear, n)
			}
		}
		for j, p := range allowed {
			b := sides[(7*i+j)%len(sides)]
			fit.Fit(p, a, b)
			fit.Between(p, a, b)
			fit.Last(p, a, b, spans[(i+j)%len(spans)])
			fit.Matches(p, a, sides)
			fit.Matches(p, a, []api.Edge{b, a, b})
			fit.Pairs(p, []api.Edge{a, b}, []api.Edge{b, a})
			fit.Pairs(p, sides, nil)
		}
	}
}

// R3: a list that is nil and an empty one are the same.
func TestNilAndEmpty(t *testing.T) {
	for _, l := range [][]api.Edge{nil, {}} {
		if sure, may, e := fit.Matches(play(), sideA(), l); len(sure)+len(may) > 0 || e != api.OK {
			t.Errorf("Matches = %v, %v, error %d", sure, may, e)
		}
		if with, other, e := fit.Pairs(play(), l, nil); len(with)+len(other) > 0 || e != api.OK {
			t.Errorf("Pairs = %v, %v, error %d", with, other, e)
		}
		if with, other, e := fit.Pairs(play(), nil, l); len(with)+len(other) > 0 || e != api.OK {
			t.Errorf("Pairs = %v, %v, error %d", with, other, e)
		}
	}
}
