package fit_test

import (
	"slices"
	"testing"

	"jigworks/api"
	"jigworks/fit"
)

// P2.1: the examples, and the bounds of what is allowed.
func TestFit(t *testing.T) {
	dry := api.Play{Length: 1000, Slack: 10, Loose: 20}
	wet := api.Play{Length: 1000, Slack: 10, Loose: 20, Damp: span(100, 100)}
	mixed := api.Play{Length: 1000, Slack: 10, Loose: 20, Damp: span(0, 100)}
	a := func(at, wide, deep int) api.Edge { return tab(span(at, at), span(wide, wide), span(deep, deep)) }
	b := hole(span(500, 500), span(100, 100), span(80, 80))
	for i, c := range []struct {
		p    api.Play
		a, b api.Edge
		want int
	}{
		{play(), sideA(), sideB(), 2}, {play(), sideA(), sideC(), 1}, {play(), sideA(), sideD(), 0}, {play(), sideA(), sideE(), 0},
		// Only one of a tab and a hole fits.
		{play(), sideB(), sideC(), 0}, {play(), sideA(), sideA(), 0}, {play(), sideB(), sideB(), 0},
		{play(), flat(), flat(), 0}, {play(), flat(), sideA(), 0}, {play(), flat(), sideB(), 0}, {play(), oddFlat(), sideB(), 0}, {play(), oddFlat(), oddFlat(), 0},
		// Off.
		{dry, a(510, 90, 70), b, 2}, {dry, a(511, 90, 70), b, 0}, {dry, a(490, 90, 70), b, 2}, {dry, a(489, 90, 70), b, 0},
		{dry, tab(span(489, 490), span(90, 90), span(70, 70)), b, 1}, {dry, tab(span(510, 511), span(90, 90), span(70, 70)), b, 1},
		{dry, tab(span(400, 600), span(90, 90), span(70, 70)), b, 1},
		// Wide.
		{dry, a(500, 100, 70), b, 2}, {dry, a(500, 101, 70), b, 0}, {dry, a(500, 80, 70), b, 2}, {dry, a(500, 79, 70), b, 0},
		{dry, tab(span(500, 500), span(79, 80), span(70, 70)), b, 1}, {dry, tab(span(500, 500), span(100, 101), span(70, 70)), b, 1},
		{dry, tab(span(500, 500), span(79, 101), span(70, 70)), b, 1},
		// Deep.
		{dry, a(500, 90, 80), b, 2}, {dry, a(500, 90, 81), b, 0}, {dry, a(500, 90, 60), b, 2}, {dry, a(500, 90, 59), b, 0},
		{dry, tab(span(500, 500), span(90, 90), span(59, 60)), b, 1}, {dry, tab(span(500, 500), span(90, 90), span(80, 81)), b, 1},
		// One that never is decides, whatever the others are.
		{dry, tab(span(500, 520), span(90, 101), span(81, 81)), b, 0}, {dry, tab(span(511, 520), span(90, 101), span(70, 70)), b, 0},
		{dry, tab(span(500, 520), span(101, 101), span(70, 70)), b, 0},
		// Damp: 10 times 1.1 is 11, 9 times 1.1 is not more than 10.
		{wet, a(510, 90, 70), b, 0}, {wet, a(509, 90, 70), b, 2}, {wet, a(490, 90, 70), b, 0}, {wet, a(491, 90, 70), b, 2},
		{wet, a(500, 100, 70), b, 2}, {wet, a(500, 81, 70), b, 0}, {wet, a(500, 82, 70), b, 2},
		{wet, a(500, 90, 61), b, 0}, {wet, a(500, 90, 62), b, 2},
		{mixed, a(510, 90, 70), b, 1}, {mixed, a(509, 90, 70), b, 2}, {mixed, a(490, 90, 70), b, 1}, {mixed, a(511, 90, 70), b, 0},
		{mixed, a(500, 80, 70), b, 1}, {mixed, a(500, 90, 60), b, 1}, {mixed, a(500, 100, 80), b, 2}, {mixed, a(500, 101, 80), b, 0},
		// Nothing is rounded: 10 times 1.001 is more than 10.
		{api.Play{Length: 1000, Slack: 10, Loose: 20, Damp: span(0, 1)}, a(510, 90, 70), b, 1},
		{api.Play{Length: 1000, Slack: 10, Loose: 20, Damp: span(1, 1)}, a(510, 90, 70), b, 0},
		// Nothing at all is allowed.
		{api.Play{Length: 1000}, a(500, 100, 80), b, 2}, {api.Play{Length: 1000, Damp: span(0, 100)}, a(500, 100, 80), b, 2},
		{api.Play{Length: 1000}, a(501, 100, 80), b, 0}, {api.Play{Length: 1000}, a(500, 99, 80), b, 0}, {api.Play{Length: 1000}, a(500, 100, 79), b, 0},
	} {
		for _, s := range [][2]api.Edge{{c.a, c.b}, {c.b, c.a}} {
			if n, e := fit.Fit(c.p, s[0], s[1]); n != c.want || e != api.OK {
				t.Errorf("%d: Fit of %v = %d, error %d", i, s, n, e)
			}
		}
	}
}

// P2.2.
func TestBetween(t *testing.T) {
	for i, c := range []struct {
		p    api.Play
		a, b api.Edge
		want api.Gap
	}{
		{play(), sideA(), sideB(), api.Gap{At: span(-16, 6), Wide: span(5, 21), Deep: span(5, 21)}},
		{play(), sideA(), sideD(), api.Gap{At: span(-16, 6), Wide: span(-31, -5), Deep: span(5, 21)}},
		// What is below 0 becomes less by damp; what is 0 stays so.
		{api.Play{Length: 1000, Damp: span(100, 100)}, tab(span(400, 400), span(60, 60), span(50, 50)), hole(span(591, 600), span(50, 60), span(45, 45)), api.Gap{At: span(-10, 0), Wide: span(-11, 0), Deep: span(-6, -5)}},
		{api.Play{Length: 1000, Damp: span(50, 100)}, tab(span(400, 400), span(60, 60), span(50, 50)), hole(span(580, 590), span(70, 80), span(50, 50)), api.Gap{At: span(-22, -10), Wide: span(10, 22), Deep: span(0, 0)}},
		{api.Play{Length: 1000}, tab(span(400, 402), span(60, 61), span(50, 52)), hole(span(580, 590), span(70, 80), span(50, 50)), api.Gap{At: span(-20, -8), Wide: span(9, 20), Deep: span(-2, 0)}},
		{api.Play{Length: 1, Damp: span(0, 100)}, tab(span(0, api.MaxLength), span(1, api.MaxTab), span(1, 1)), hole(span(0, api.MaxLength), span(1, api.MaxTab), span(api.MaxTab, api.MaxTab)), api.Gap{At: span(-2, 21999), Wide: span(-3299, 3299), Deep: span(2999, 3299)}},
	} {
		for _, s := range [][2]api.Edge{{c.a, c.b}, {c.b, c.a}} {
			if g, e := fit.Between(c.p, s[0], s[1]); g != c.want || e != api.OK {
				t.Errorf("%d: Between of %v = %v, error %d", i, s, g, e)
			}
		}
	}
}

// P2.2, P2.4: sides that are not a tab and a hole.
func TestSidesThatAreNoPair(t *testing.T) {
	for _, s := range [][2]api.Edge{{sideA(), sideA()}, {sideB(), sideC()}, {flat(), flat()}, {flat(), sideA()}, {sideB(), oddFlat()}, {sideA(), flat()}} {
		if g, e := fit.Between(play(), s[0], s[1]); g != (api.Gap{}) || e != api.ErrState {
			t.Errorf("Between of %v = %v, error %d", s, g, e)
		}
		if from, to, e := fit.Last(play(), s[0], s[1], span(2, 3)); from != 0 || to != 0 || e != api.ErrState {
			t.Errorf("Last of %v = %d, %d, error %d", s, from, to, e)
		}
		for _, wear := range badWears() {
			if from, to, e := fit.Last(play(), s[0], s[1], wear); from != 0 || to != 0 || e != api.ErrRange {
				t.Errorf("Last of %v with wear %v = %d, %d, error %d", s, wear, from, to, e)
			}
		}
	}
}

// P2.3.
func TestWorn(t *testing.T) {
	narrow := tab(span(7, 8), span(10, 20), span(30, 40))
	broad := hole(span(7, 8), span(2980, 2990), span(30, 40))
	for i, c := range []struct {
		s       api.Edge
		wear    api.Span
		strokes int
		want    api.Span
		e       api.Errno
	}{
		{sideA(), span(2, 3), 5000, span(485, 500), api.OK},
		{sideB(), span(2, 3), 5000, span(525, 535), api.OK},
		{sideA(), span(2, 3), 0, span(500, 510), api.OK},
		{sideB(), span(0, 0), 20000, span(515, 520), api.OK},
		// What is between two numbers belongs to both of them.
		{sideA(), span(2, 3), 1, span(499, 510), api.OK},
		{sideB(), span(2, 3), 1, span(515, 521), api.OK},
		{sideA(), span(1, 1), 999, span(499, 510), api.OK},
		{sideA(), span(1, 1), 1000, span(499, 509), api.OK},
		{sideA(), span(1, 1), 1001, span(498, 509), api.OK},
		{sideB(), span(1, 1), 999, span(515, 521), api.OK},
		{sideB(), span(1, 1), 1000, span(516, 521), api.OK},
		{sideB(), span(1, 1), 1001, span(516, 522), api.OK},
		{sideA(), span(0, 1), 500, span(499, 510), api.OK},
		{sideB(), span(0, 1), 500, span(515, 521), api.OK},
		// Refused.
		{narrow, span(1, 1), 9000, span(1, 11), api.OK},
		{narrow, span(1, 1), 9001, api.Span{}, api.ErrRefuse},
		{narrow, span(0, 1), 9001, api.Span{}, api.ErrRefuse},
		{narrow, span(100, 100), 20000, api.Span{}, api.ErrRefuse},
		{broad, span(1, 1), 10000, span(2990, 3000), api.OK},
		{broad, span(1, 1), 10001, api.Span{}, api.ErrRefuse},
		{broad, span(0, 100), 101, api.Span{}, api.ErrRefuse},
		{broad, span(0, 100), 100, span(2980, 3000), api.OK},
		{tab(span(0, 0), span(1, api.MaxTab), span(1, 1)), span(0, 0), 20000, span(1, api.MaxTab), api.OK},
		{tab(span(0, 0), span(1, api.MaxTab), span(1, 1)), span(0, 1), 1, api.Span{}, api.ErrRefuse},
		{hole(span(0, 0), span(1, api.MaxTab), span(1, 1)), span(0, 1), 0, span(1, api.MaxTab), api.OK},
		{hole(span(0, 0), span(1, api.MaxTab), span(1, 1)), span(0, 1), 1, api.Span{}, api.ErrRefuse},
		{tab(span(0, 0), span(api.MaxTab, api.MaxTab), span(1, 1)), span(100, 100), 20000, span(1000, 1000), api.OK},
		{hole(span(0, 0), span(1, 1000), span(1, 1)), span(100, 100), 20000, span(2001, 3000), api.OK},
	} {
		want := c.s
		want.Wide = c.want
		if c.e != api.OK {
			want = api.Edge{}
		}
		if s, e := fit.Worn(c.s, c.wear, c.strokes); s != want || e != c.e {
			t.Errorf("%d: Worn = %v, error %d", i, s, e)
		}
	}
}

// P2.3: errors, in their order.
func TestWornOfWhatIsNot(t *testing.T) {
	strokes := []int{-1, api.MaxStrokes + 1, -1 << 63, 1<<63 - 1}
	for _, s := range []api.Edge{sideA(), sideB(), flat(), oddFlat()} {
		for _, n := range strokes {
			if w, e := fit.Worn(s, span(2, 3), n); w != (api.Edge{}) || e != api.ErrRange {
				t.Errorf("Worn after %d = %v, error %d", n, w, e)
			}
		}
		for _, wear := range badWears() {
			if w, e := fit.Worn(s, wear, 5); w != (api.Edge{}) || e != api.ErrRange {
				t.Errorf("Worn with %v = %v, error %d", wear, w, e)
			}
		}
	}
	for _, s := range []api.Edge{flat(), oddFlat()} {
		if w, e := fit.Worn(s, span(0, 0), 0); w != (api.Edge{}) || e != api.ErrState {
			t.Errorf("Worn of %v = %v, error %d", s, w, e)
		}
	}
	for _, s := range badSides() {
		if w, e := fit.Worn(s, span(1, 0), -1); w != (api.Edge{}) || e != api.ErrArg {
			t.Errorf("Worn of %v = %v, error %d", s, w, e)
		}
	}
}

// P2.4.
func TestLast(t *testing.T) {
	loose := play()
	loose.Loose = 40
	roomy := api.Play{Length: 1000, Slack: 10, Loose: 500}
	small := tab(span(500, 500), span(10, 10), span(70, 70))
	great := hole(span(500, 500), span(2995, 2995), span(80, 80))
	exact := api.Play{Length: 1000}
	for i, c := range []struct {
		p        api.Play
		a, b     api.Edge
		wear     api.Span
		from, to int
		e        api.Errno
	}{
		{play(), sideA(), sideB(), span(2, 3), 0, 1333, api.OK},
		{play(), sideA(), sideC(), span(2, 3), 0, 0, api.ErrNone},
		{loose, sideA(), sideC(), span(2, 3), 1500, 3000, api.OK},
		// No wear: for ever, or never.
		{play(), sideA(), sideB(), span(0, 0), 0, api.MaxStrokes, api.OK},
		{play(), sideA(), sideC(), span(0, 0), 0, 0, api.ErrNone},
		{play(), sideA(), sideD(), span(2, 3), 0, 0, api.ErrNone},
		// Off or deep are not mended by wear.
		{play(), sideA(), hole(span(1100, 1100), span(515, 520), span(410, 420)), span(2, 3), 0, 0, api.ErrNone},
		{play(), sideA(), hole(span(990, 1000), span(515, 520), span(400, 420)), span(2, 3), 0, 0, api.ErrNone},
		{play(), sideA(), hole(span(990, 1000), span(515, 520), span(410, 435)), span(2, 3), 0, 0, api.ErrNone},
		{play(), sideA(), hole(span(990, 1000), span(515, 520), span(410, 430)), span(2, 3), 0, 0, api.ErrNone},
		{play(), sideA(), hole(span(990, 1000), span(515, 520), span(410, 429)), span(2, 3), 0, 1333, api.OK},
		// After more strokes Worn refuses the tab, or the hole.
		{roomy, small, hole(span(500, 500), span(20, 20), span(80, 80)), span(1, 1), 0, 9000, api.OK},
		{roomy, small, hole(span(500, 500), span(20, 20), span(80, 80)), span(0, 3), 0, 3000, api.OK},
		{roomy, tab(span(500, 500), span(2900, 2900), span(70, 70)), great, span(1, 1), 0, 5000, api.OK},
		{roomy, tab(span(500, 500), span(2999, 2999), span(70, 70)), great, span(1, 1), 2000, 5000, api.OK},
		// Worn refuses the tab before it fits, or from the first stroke on.
		{roomy, tab(span(500, 500), span(1, 2), span(70, 70)), hole(span(500, 500), span(1, 1), span(80, 80)), span(1, 1), 0, 0, api.ErrNone},
		{roomy, tab(span(500, 500), span(1, 1), span(70, 70)), hole(span(500, 500), span(1, 1), span(80, 80)), span(1, 1), 0, 0, api.OK},
		{roomy, tab(span(500, 500), span(2, 20), span(70, 70)), hole(span(500, 500), span(4, 9), span(80, 80)), span(1, 1), 0, 0, api.ErrNone},
		// Each stroke widens the span by what is rounded.
		{exact, tab(span(500, 500), span(50, 50), span(80, 80)), hole(span(500, 500), span(50, 50), span(80, 80)), span(0, 1), 0, 0, api.OK},
		{exact, tab(span(500, 500), span(51, 51), span(80, 80)), hole(span(500, 500), span(49, 49), span(80, 80)), span(1, 1), 1000, 1000, api.OK},
		{exact, tab(span(500, 500), span(51, 51), span(80, 80)), hole(span(500, 500), span(50, 50), span(80, 80)), span(1, 1), 0, 0, api.ErrNone},
		{api.Play{Length: 1000, Loose: 3}, tab(span(500, 500), span(51, 51), span(80, 80)), hole(span(500, 500), span(50, 50), span(80, 80)), span(1, 1), 1000, 2000, api.OK},
		// With damp 3 is 3.003.
		{api.Play{Length: 1000, Loose: 3, Damp: span(0, 1)}, tab(span(500, 500), span(51, 51), span(80, 80)), hole(span(500, 500), span(50, 50), span(80, 80)), span(1, 1), 1000, 1000, api.OK},
		// All strokes but for some of the first ones.
		{api.Play{Length: 1000, Loose: 500}, tab(span(500, 500), span(1051, 1051), span(80, 80)), hole(span(500, 500), span(1011, 1011), span(80, 80)), span(1, 1), 20000, 20000, api.OK},
		{api.Play{Length: 1000, Loose: 500}, tab(span(500, 500), span(1051, 1051), span(80, 80)), hole(span(500, 500), span(1010, 1010), span(80, 80)), span(1, 1), 0, 0, api.ErrNone},
		{api.Play{Length: 1000, Loose: 500}, tab(span(500, 500), span(1051, 1051), span(80, 80)), hole(span(500, 500), span(1050, 1050), span(80, 80)), span(1, 1), 1000, 20000, api.OK},
	} {
		for _, s := range [][2]api.Edge{{c.a, c.b}, {c.b, c.a}} {
			if from, to, e := fit.Last(c.p, s[0], s[1], c.wear); from != c.from || to != c.to || e != c.e {
				t.Errorf("%d: Last = %d, %d, error %d", i, from, to, e)
			}
		}
	}
}

// P2.5.
func TestMatches(t *testing.T) {
	all := []api.Edge{sideB(), sideC(), sideD(), sideA()}
	for i, c := range []struct {
		s         api.Edge
		l         []api.Edge
		sure, may []int
	}{
		{sideA(), all, []int{0}, []int{0, 1}},
		{sideA(), nil, nil, nil},
		{sideA(), []api.Edge{sideD(), sideC(), flat(), sideB(), oddFlat(), sideB()}, []int{3, 5}, []int{1, 3, 5}},
		{sideB(), []api.Edge{flat(), sideA(), sideF(), sideB(), sideE()}, []int{1}, []int{1, 4}},
		{sideC(), []api.Edge{sideA(), sideB(), sideE(), sideF()}, nil, []int{0, 2, 3}},
		{flat(), append(slices.Clone(all), flat()), nil, nil},
		{oddFlat(), all, nil, nil},
		{sideD(), []api.Edge{sideA(), sideA()}, nil, nil},
	} {
		sure, may, e := fit.Matches(play(), c.s, c.l)
		if !slices.Equal(sure, c.sure) || !slices.Equal(may, c.may) || e != api.OK {
			t.Errorf("%d: Matches = %v, %v, error %d", i, sure, may, e)
		}
	}
}

// P2.5: as many sides as there can be, and one more.
func TestMatchesOfManySides(t *testing.T) {
	most := slices.Repeat([]api.Edge{sideB(), sideC()}, api.MaxEdges/2)
	sure, may, e := fit.Matches(play(), sideA(), most)
	if len(sure) != api.MaxEdges/2 || len(may) != api.MaxEdges || sure[19] != 38 || may[39] != 39 || e != api.OK {
		t.Errorf("Matches = %v, %v, error %d", sure, may, e)
	}
	for _, further := range goodSides() {
		if sure, may, e = fit.Matches(play(), sideA(), append(slices.Clone(most), further)); len(sure)+len(may) > 0 || e != api.ErrLong {
			t.Errorf("Matches = %v, %v, error %d", sure, may, e)
		}
	}
	if sure, may, e = fit.Matches(play(), flat(), slices.Repeat(most, 50)); len(sure)+len(may) > 0 || e != api.ErrLong {
		t.Errorf("Matches = %v, %v, error %d", sure, may, e)
	}
}

// P2.6.
func TestPairs(t *testing.T) {
	edges := func(l ...api.Edge) []api.Edge { return l }
	for i, c := range []struct {
		tabs, holes []api.Edge
		with, other []int
		e           api.Errno
	}{
		{edges(sideA(), sideE()), edges(sideB(), sideC()), []int{0, 1}, []int{1, 0}, api.OK},
		{edges(sideA(), sideF()), edges(sideB(), sideC()), []int{0, 1}, nil, api.OK},
		{edges(sideA(), sideF()), edges(sideC(), sideB()), []int{1, 0}, nil, api.OK},
		{edges(sideA()), edges(sideB()), []int{0}, nil, api.OK},
		{edges(sideA()), edges(sideC()), []int{0}, nil, api.OK},
		{edges(sideA()), edges(sideD()), nil, nil, api.ErrNone},
		{edges(sideA(), sideA()), edges(sideB(), sideD()), nil, nil, api.ErrNone},
		{edges(sideA(), sideA()), edges(sideB(), sideB()), []int{0, 1}, []int{1, 0}, api.OK},
		{edges(sideA(), sideA(), sideA()), edges(sideB(), sideC(), sideB()), []int{0, 1, 2}, []int{0, 2, 1}, api.OK},
		// No tabs at all.
		{nil, nil, nil, nil, api.OK},
		{edges(), nil, nil, nil, api.OK},
		// Not as many.
		{nil, edges(sideB()), nil, nil, api.ErrRange},
		{edges(sideA()), nil, nil, nil, api.ErrRange},
		{edges(sideA()), edges(sideB(), sideC()), nil, nil, api.ErrRange},
		{edges(sideA(), sideE()), edges(sideD()), nil, nil, api.ErrRange},
		// Not tabs, or not holes; also where they are not as many.
		{edges(sideB()), edges(sideB()), nil, nil, api.ErrState},
		{edges(sideA()), edges(sideA()), nil, nil, api.ErrState},
		{edges(sideB()), edges(sideA()), nil, nil, api.ErrState},
		{edges(sideA(), flat()), edges(sideB(), sideC()), nil, nil, api.ErrState},
		{edges(sideA(), sideE()), edges(sideB(), oddFlat()), nil, nil, api.ErrState},
		{edges(sideA(), sideB()), edges(sideB()), nil, nil, api.ErrState},
		{edges(sideA()), edges(sideB(), sideB(), sideA()), nil, nil, api.ErrState},
		{edges(), edges(flat()), nil, nil, api.ErrState},
		{edges(flat()), nil, nil, nil, api.ErrState},
	} {
		with, other, e := fit.Pairs(play(), c.tabs, c.holes)
		if !slices.Equal(with, c.with) || !slices.Equal(other, c.other) || e != c.e {
			t.Errorf("%d: Pairs = %v, %v, error %d", i, with, other, e)
		}
	}
}

// P2.6: as many tabs and holes as there can be, and more.
func TestPairsOfManySides(t *testing.T) {
	many := func(n int, s api.Edge) []api.Edge { return slices.Repeat([]api.Edge{s}, n) }
	with, other, e := fit.Pairs(play(), many(8, sideA()), many(8, sideB()))
	if !slices.Equal(with, []int{0, 1, 2, 3, 4, 5, 6, 7}) || !slices.Equal(other, []int{0, 1, 2, 3, 4, 5, 7, 6}) || e != api.OK {
		t.Errorf("Pairs = %v, %v, error %d", with, other, e)
	}
	// The last tab goes into no hole, or only into the first one.
	tabs := append(many(7, sideA()), tab(span(0, 0), span(1, 1), span(1, 1)))
	if with, other, e = fit.Pairs(play(), tabs, many(8, sideB())); len(with)+len(other) > 0 || e != api.ErrNone {
		t.Errorf("Pairs = %v, %v, error %d", with, other, e)
	}
	tabs[7] = tab(span(900, 900), span(100, 100), span(400, 400))
	holes := append([]api.Edge{hole(span(1100, 1100), span(110, 110), span(410, 410))}, many(7, sideB())...)
	with, other, e = fit.Pairs(play(), tabs, holes)
	if !slices.Equal(with, []int{1, 2, 3, 4, 5, 6, 7, 0}) || !slices.Equal(other, []int{1, 2, 3, 4, 5, 7, 6, 0}) || e != api.OK {
		t.Errorf("Pairs = %v, %v, error %d", with, other, e)
	}
	for _, l := range [][2][]api.Edge{
		{many(9, sideA()), many(9, sideB())}, {many(9, sideA()), many(8, sideB())}, {many(8, sideA()), many(9, sideB())},
		{many(9, sideA()), nil}, {nil, many(9, sideB())}, {many(9, flat()), many(1, sideB())}, {many(1, sideB()), many(500, sideA())},
	} {
		if with, other, e = fit.Pairs(play(), l[0], l[1]); len(with)+len(other) > 0 || e != api.ErrLong {
			t.Errorf("Pairs of %d and %d = %v, %v, error %d", len(l[0]), len(l[1]), with, other, e)
		}
	}
}

// What is not valid comes before all other errors.
func TestErrorsOfArguments(t *testing.T) {
	type given struct {
		p    api.Play
		a, b api.Edge
	}
	var l []given
	for _, p := range badPlays() {
		l = append(l, given{p, sideA(), sideB()}, given{p, flat(), flat()}, given{p, sideB(), api.Edge{Kind: 3}})
	}
	for _, s := range badSides() {
		l = append(l, given{play(), s, sideB()}, given{play(), sideA(), s}, given{play(), s, flat()}, given{play(), s, s})
	}
	for _, g := range l {
		if n, e := fit.Fit(g.p, g.a, g.b); n != 0 || e != api.ErrArg {
			t.Errorf("%v: Fit = %d, error %d", g, n, e)
		}
		if x, e := fit.Between(g.p, g.a, g.b); x != (api.Gap{}) || e != api.ErrArg {
			t.Errorf("%v: Between = %v, error %d", g, x, e)
		}
		for _, wear := range []api.Span{span(2, 3), span(3, 2)} {
			if from, to, e := fit.Last(g.p, g.a, g.b, wear); from != 0 || to != 0 || e != api.ErrArg {
				t.Errorf("%v: Last = %d, %d, error %d", g, from, to, e)
			}
		}
		if sure, may, e := fit.Matches(g.p, g.a, []api.Edge{g.b}); len(sure)+len(may) > 0 || e != api.ErrArg {
			t.Errorf("%v: Matches = %v, %v, error %d", g, sure, may, e)
		}
		if with, other, e := fit.Pairs(g.p, []api.Edge{g.a}, []api.Edge{g.b}); len(with)+len(other) > 0 || e != api.ErrArg {
			t.Errorf("%v: Pairs = %v, %v, error %d", g, with, other, e)
		}
		// Too many sides, the last one of which may be to blame.
		many := append(slices.Repeat([]api.Edge{g.a}, 60), g.b)
		if sure, may, e := fit.Matches(g.p, sideA(), many); len(sure)+len(may) > 0 || e != api.ErrArg {
			t.Errorf("%v: Matches = %v, %v, error %d", g, sure, may, e)
		}
		if with, other, e := fit.Pairs(g.p, many, nil); len(with)+len(other) > 0 || e != api.ErrArg {
			t.Errorf("%v: Pairs = %v, %v, error %d", g, with, other, e)
		}
		if with, other, e := fit.Pairs(g.p, []api.Edge{sideB()}, many); len(with)+len(other) > 0 || e != api.ErrArg {
			t.Errorf("%v: Pairs = %v, %v, error %d", g, with, other, e)
		}
	}
}

// The greatest and the least values are valid.
func TestGoodArguments(t *testing.T) {
	for _, p := range plays() {
		for _, a := range goodSides() {
			for _, b := range goodSides() {
				if n, e := fit.Fit(p, a, b); n < api.FitNever || n > api.FitAlways || e != api.OK {
					t.Errorf("Fit of %v, %v, %v = %d, error %d", p, a, b, n, e)
				}
			}
		}
	}
	for _, wear := range []api.Span{span(0, 0), span(0, api.MaxWear), span(api.MaxWear, api.MaxWear)} {
		if _, e := fit.Worn(sideA(), wear, 0); e != api.OK {
			t.Errorf("Worn with %v has the error %d", wear, e)
		}
		if _, _, e := fit.Last(play(), sideA(), sideB(), wear); e != api.OK {
			t.Errorf("Last with %v has the error %d", wear, e)
		}
	}
}
