package rule_test

import (
	"math"
	"slices"
	"testing"

	"jigworks/api"
	"jigworks/rule"
)

// widest has blades that are off, and wear, as much as they can.
func widest() api.Die {
	return die(api.MaxBound, api.MaxPrice, api.MaxPrice, blade(0, api.MaxAway, 0, api.MaxAway), blade(api.MaxAway, api.MaxAway, api.MaxAway, api.MaxAway))
}

// P4.1.
func TestOff(t *testing.T) {
	for i, c := range []struct {
		d              api.Die
		blade, strokes int
		want           api.Span
		e              api.Errno
	}{
		{exampleDie(), 0, 10, span(20, 35), api.OK}, {exampleDie(), 1, 10, span(2, 14), api.OK},
		{exampleDie(), 0, 0, span(0, 5), api.OK}, {exampleDie(), 1, 0, span(2, 4), api.OK}, {exampleDie(), 0, 1, span(2, 8), api.OK},
		{exampleDie(), 0, 7000, span(14000, 21005), api.OK}, {exampleDie(), 1, 7000, span(2, 7004), api.OK},
		{widest(), 0, 7000, span(0, 70010000), api.OK}, {widest(), 1, 7000, span(70010000, 70010000), api.OK},
		{die(0, 0, 0, blade(3, 3, 0, 0)), 0, 7000, span(3, 3), api.OK}, {die(0, 0, 0, blade(0, 0, 4, 5)), 0, 0, span(0, 0), api.OK},
		{die(0, 0, 0, fiveBlades()...), 4, 2, span(0, 3), api.OK},
		// No blade, and too many strokes, or too few.
		{exampleDie(), -1, 0, api.Span{}, api.ErrRange}, {exampleDie(), 2, 0, api.Span{}, api.ErrRange}, {die(0, 0, 0, fiveBlades()...), 5, 2, api.Span{}, api.ErrRange},
		{exampleDie(), math.MinInt, 0, api.Span{}, api.ErrRange}, {exampleDie(), math.MaxInt, 0, api.Span{}, api.ErrRange},
		{exampleDie(), 0, -1, api.Span{}, api.ErrRange}, {exampleDie(), 0, 7001, api.Span{}, api.ErrRange},
		{exampleDie(), 0, math.MinInt, api.Span{}, api.ErrRange}, {exampleDie(), 0, math.MaxInt, api.Span{}, api.ErrRange},
		{exampleDie(), 2, -1, api.Span{}, api.ErrRange},
	} {
		if s, e := rule.Off(c.d, c.blade, c.strokes); s != c.want || e != c.e {
			t.Errorf("%d: Off = %v, error %d", i, s, e)
		}
	}
}

// P4.2.
func TestLasts(t *testing.T) {
	for i, c := range []struct {
		d            api.Die
		blade, bound int
		want         api.Span
		e            api.Errno
	}{
		{exampleDie(), 0, 40, span(11, 20), api.OK}, {exampleDie(), 1, 40, span(36, 7000), api.OK}, {exampleDie(), 0, 4, api.Span{}, api.ErrNone},
		// The die's own Bound makes no difference.
		{die(0, 0, 0, blade(0, 5, 2, 3)), 0, 40, span(11, 20), api.OK},
		// Off by too much when it has just been bent: in no truth but one, in all of them.
		{exampleDie(), 0, 5, span(0, 2), api.OK}, {exampleDie(), 0, 0, api.Span{}, api.ErrNone}, {exampleDie(), 1, 3, api.Span{}, api.ErrNone},
		{exampleDie(), 1, 1, api.Span{}, api.ErrNone}, {exampleDie(), 1, 4, span(0, 7000), api.OK}, {die(0, 0, 0, blade(7, 7, 0, 0)), 0, 6, api.Span{}, api.ErrNone},
		{die(0, 0, 0, blade(7, 7, 0, 0)), 0, 7, span(7000, 7000), api.OK}, {die(0, 0, 0, blade(0, 0, 0, 0)), 0, 0, span(7000, 7000), api.OK},
		{die(0, 0, 0, blade(0, 0, 1, 1)), 0, 0, span(0, 0), api.OK}, {die(0, 0, 0, blade(0, 0, 0, 1)), 0, 0, span(0, 7000), api.OK},
		// About a whole number of thousands of strokes.
		{exampleDie(), 0, 7, span(0, 3), api.OK}, {exampleDie(), 0, 8, span(1, 4), api.OK}, {exampleDie(), 0, 10, span(1, 5), api.OK}, {exampleDie(), 0, 11, span(2, 5), api.OK},
		// About the most thousands of strokes.
		{die(0, 0, 0, blade(0, 0, 1, 1)), 0, 6999, span(6999, 6999), api.OK}, {die(0, 0, 0, blade(0, 0, 1, 1)), 0, 7000, span(7000, 7000), api.OK},
		{die(0, 0, 0, blade(0, 0, 1, 1)), 0, 7001, span(7000, 7000), api.OK}, {die(0, 0, 0, blade(0, 1, 1, 1)), 0, 7000, span(6999, 7000), api.OK},
		{die(0, 0, 0, blade(0, 0, 20, 29)), 0, 200000, span(6896, 7000), api.OK}, {die(0, 0, 0, blade(0, 0, 28, 29)), 0, 200000, span(6896, 7000), api.OK},
		{die(0, 0, 0, blade(0, 0, 29, 29)), 0, 200000, span(6896, 6896), api.OK}, {widest(), 0, 200000, span(19, 7000), api.OK}, {widest(), 1, 200000, span(19, 19), api.OK},
		{widest(), 1, 9999, api.Span{}, api.ErrNone}, {widest(), 1, 10000, span(0, 0), api.OK}, {widest(), 0, 19999, span(0, 7000), api.OK},
		{die(0, 0, 0, fiveBlades()...), 4, 3, span(2, 7000), api.OK},
		// No blade, and no bound; both come before what a blade can be off by.
		{exampleDie(), -1, 40, api.Span{}, api.ErrRange}, {exampleDie(), 2, 40, api.Span{}, api.ErrRange}, {exampleDie(), 2, 0, api.Span{}, api.ErrRange},
		{exampleDie(), math.MinInt, 40, api.Span{}, api.ErrRange}, {exampleDie(), math.MaxInt, 40, api.Span{}, api.ErrRange},
		{exampleDie(), 0, -1, api.Span{}, api.ErrRange}, {exampleDie(), 0, 200001, api.Span{}, api.ErrRange},
		{exampleDie(), 0, math.MinInt, api.Span{}, api.ErrRange}, {exampleDie(), 0, math.MaxInt, api.Span{}, api.ErrRange},
	} {
		if s, e := rule.Lasts(c.d, c.blade, c.bound); s != c.want || e != c.e {
			t.Errorf("%d: Lasts = %v, error %d", i, s, e)
		}
	}
}

// P4.3: plans that are good, and what they cost; where others are refused.
func TestFollow(t *testing.T) {
	two := die(10, 7, 2, blade(0, 4, 0, 2), blade(1, 6, 1, 2))
	for i, c := range []struct {
		d                  api.Die
		l                  []api.Stint
		plan               []int
		cost, stint, blade int
		e                  api.Errno
	}{
		{exampleDie(), exampleStints(), []int{1, 1, 1}, 39, 4, 0, api.OK},
		{exampleDie(), exampleStints(), []int{1, 0, 1}, 0, 2, 0, api.ErrRefuse}, {exampleDie(), exampleStints(), []int{0, 1, 0}, 0, 1, 0, api.ErrRefuse},
		// One stop for several blades, none for none.
		{exampleDie(), exampleStints(), []int{3, 1, 3}, 45, 4, 0, api.OK}, {exampleDie(), exampleStints(), []int{3, 3, 3}, 48, 4, 0, api.OK},
		{exampleDie(), exampleStints()[:2], []int{2}, 0, 1, 0, api.ErrRefuse}, {exampleDie(), exampleStints()[:2], []int{1}, 13, 2, 0, api.OK},
		{exampleDie(), stints(2, 0, 3, 0, 1, 0), []int{0, 0}, 0, 3, 0, api.OK}, {exampleDie(), stints(2, 0, 3, 0, 1, 0), []int{0, 2}, 13, 3, 0, api.OK},
		// No stints, or just one.
		{exampleDie(), nil, nil, 0, 0, 0, api.OK}, {exampleDie(), []api.Stint{}, []int{}, 0, 0, 0, api.OK},
		{exampleDie(), stints(11, 0), nil, 0, 1, 0, api.OK}, {exampleDie(), stints(12, 0), nil, 0, 0, 0, api.ErrRefuse},
		// A stint with a More of its own: it is there for no other stint.
		{exampleDie(), stints(12, 1), nil, 0, 1, 0, api.OK}, {exampleDie(), stints(13, 3), nil, 0, 0, 0, api.ErrRefuse}, {exampleDie(), stints(13, 4), []int{}, 0, 1, 0, api.OK},
		{exampleDie(), stints(6, 0, 6, 1, 1, 4), []int{0, 0}, 0, 3, 0, api.OK}, {exampleDie(), stints(6, 0, 6, 1, 1, 3), []int{0, 0}, 0, 2, 0, api.ErrRefuse},
		{exampleDie(), stints(6, 50, 6, 0), []int{0}, 0, 1, 0, api.ErrRefuse}, {exampleDie(), stints(6, 0, 6, 0, 1, 50), []int{0, 0}, 0, 1, 0, api.ErrRefuse},
		// Refused for the first of several blades, or for one behind it; in the first stint in which there is one.
		{two, stints(4, 0), nil, 0, 0, 0, api.ErrRefuse}, {two, stints(3, 0), nil, 0, 0, 1, api.ErrRefuse}, {two, stints(2, 0, 2, 0), []int{0}, 0, 1, 0, api.ErrRefuse},
		{two, stints(2, 0, 2, 0), []int{1}, 0, 1, 1, api.ErrRefuse}, {two, stints(2, 0, 2, 0), []int{2}, 0, 1, 0, api.ErrRefuse}, {two, stints(2, 0, 2, 0), []int{3}, 11, 2, 0, api.OK},
		{two, stints(2, 0, 1, 0, 1, 0), []int{0, 0}, 0, 1, 1, api.ErrRefuse}, {two, stints(2, 0, 1, 0, 1, 0), []int{2, 0}, 0, 2, 0, api.ErrRefuse},
		{two, stints(2, 0, 1, 0, 1, 0), []int{2, 1}, 18, 3, 0, api.OK}, {two, stints(1, 0, 3, 0, 1, 0), []int{3, 3}, 0, 1, 1, api.ErrRefuse},
		// Off by too much when it has just been bent, whatever is bent.
		{die(3, 1, 1, blade(0, 3, 0, 0), blade(0, 4, 0, 0)), alike(3), []int{3, 3}, 0, 0, 1, api.ErrRefuse},
		{die(3, 1, 1, blade(0, 3, 0, 0), blade(0, 4, 0, 0)), stints(1, 1, 1, 0, 1, 1), []int{3, 3}, 0, 1, 1, api.ErrRefuse},
		{die(3, 1, 1, blade(0, 3, 0, 0), blade(0, 4, 0, 0)), stints(1, 1, 1, 1, 1, 1), []int{0, 0}, 0, 3, 0, api.OK},
		// Bounds of 0, the greatest numbers, and the most of all.
		{die(0, 1, 1, blade(0, 0, 0, 0)), stints(1000, 0), nil, 0, 1, 0, api.OK}, {die(0, 1, 1, blade(0, 0, 0, 1)), stints(1, 0), nil, 0, 0, 0, api.ErrRefuse},
		{widest(), stints(19, api.MaxBound, 19, api.MaxBound), []int{3}, 30000, 2, 0, api.OK}, {widest(), stints(20, api.MaxBound), nil, 0, 0, 0, api.ErrRefuse},
		{die(7001, 10000, 10000, fiveBlades()...), slices.Repeat(stints(1000, 0), 7), []int{0, 0, 0, 0, 0, 0}, 0, 7, 0, api.OK},
		{die(7000, 10000, 10000, fiveBlades()...), slices.Repeat(stints(1000, 0), 7), []int{0, 0, 0, 0, 0, 0}, 0, 6, 0, api.ErrRefuse},
		{die(1001, 10000, 10000, fiveBlades()...), slices.Repeat(stints(1000, 0), 7), []int{31, 31, 31, 31, 31, 31}, 360000, 7, 0, api.OK},
		{die(1001, 10000, 10000, fiveBlades()...), slices.Repeat(stints(1000, 0), 7), []int{31, 31, 31, 31, 31, 15}, 0, 6, 4, api.ErrRefuse},
	} {
		if cost, stint, blade, e := rule.Follow(c.d, c.l, c.plan); cost != c.cost || stint != c.stint || blade != c.blade || e != c.e {
			t.Errorf("%d: Follow = %d, %d, %d, error %d", i, cost, stint, blade, e)
		}
	}
}

// P4.3: lists that are no plans, also where a plan would be refused.
func TestListsThatAreNoPlans(t *testing.T) {
	for i, c := range []struct {
		d    api.Die
		l    []api.Stint
		plan []int
	}{
		{exampleDie(), exampleStints(), nil}, {exampleDie(), exampleStints(), []int{1, 1}}, {exampleDie(), exampleStints(), []int{1, 1, 1, 1}},
		{exampleDie(), exampleStints(), []int{1, 1, 4}}, {exampleDie(), exampleStints(), []int{1, -1, 1}}, {exampleDie(), exampleStints(), []int{0, 1, 4}},
		{exampleDie(), exampleStints(), []int{math.MinInt, 1, 1}}, {exampleDie(), exampleStints(), []int{math.MaxInt, 1, 1}}, {exampleDie(), exampleStints(), []int{1 << 32, 1, 1}},
		{exampleDie(), nil, []int{0}}, {exampleDie(), nil, []int{0, 0}}, {exampleDie(), alike(1), []int{0}}, {exampleDie(), alike(2), nil}, {exampleDie(), alike(7), make([]int, 7)},
		{exampleDie(), stints(12, 0), []int{0}}, {exampleDie(), stints(12, 0, 1, 0), nil}, {exampleDie(), stints(12, 0, 1, 0), []int{4}},
		{die(40, 0, 0, blade(0, 0, 0, 0)), alike(2), []int{2}}, {die(40, 0, 0, fiveBlades()...), alike(2), []int{32}},
		{exampleDie(), alike(7), make([]int, 1000)},
	} {
		if cost, stint, blade, e := rule.Follow(c.d, c.l, c.plan); cost+stint+blade != 0 || e != api.ErrRange {
			t.Errorf("%d: Follow = %d, %d, %d, error %d", i, cost, stint, blade, e)
		}
	}
}

// P4.4.
func TestPlan(t *testing.T) {
	// The blade 0 runs through two stints, the blade 1 through three.
	two := func(stop, bend int) api.Die { return die(6, stop, bend, blade(0, 0, 3, 3), blade(0, 0, 2, 2)) }
	for i, c := range []struct {
		d    api.Die
		l    []api.Stint
		want []int
		cost int
		e    api.Errno
	}{
		{exampleDie(), exampleStints(), []int{1, 1, 1}, 39, api.OK}, {exampleDie(), stints(8, 0, 6, 0, 9, 5, 12, 0), nil, 0, api.ErrNone},
		// No stints, or just one.
		{exampleDie(), nil, nil, 0, api.OK}, {exampleDie(), []api.Stint{}, nil, 0, api.OK}, {exampleDie(), stints(11, 0), nil, 0, api.OK}, {exampleDie(), stints(12, 0), nil, 0, api.ErrNone},
		{exampleDie(), stints(12, 1), nil, 0, api.OK}, {die(4, 0, 0, blade(0, 5, 0, 0)), nil, nil, 0, api.OK},
		// Nothing to be bent.
		{exampleDie(), alike(7), make([]int, 6), 0, api.OK}, {exampleDie(), stints(5, 0, 6, 0), []int{0}, 0, api.OK}, {exampleDie(), stints(5, 0, 7, 0), []int{1}, 13, api.OK},
		{exampleDie(), stints(5, 0, 7, 1), []int{0}, 0, api.OK},
		// No plan: in some stint a blade cannot be kept, be it the first, the last, or one between.
		{exampleDie(), stints(12, 0, 1, 0, 1, 0), nil, 0, api.ErrNone}, {exampleDie(), stints(1, 0, 12, 0, 1, 9), nil, 0, api.ErrNone}, {exampleDie(), stints(1, 9, 1, 9, 12, 0), nil, 0, api.ErrNone},
		{die(9, 0, 0, blade(0, 0, 0, 0), blade(10, 10, 0, 0)), alike(1), nil, 0, api.ErrNone}, {die(9, 0, 0, blade(0, 10, 0, 0), blade(0, 0, 0, 0)), alike(4), nil, 0, api.ErrNone},
		{die(0, 0, 0, blade(0, 0, 0, 1)), alike(7), nil, 0, api.ErrNone}, {die(0, 0, 0, blade(0, 0, 0, 0)), alike(7), make([]int, 6), 0, api.OK},
		// Plans that cost the same.
		{two(5, 1), alike(3), []int{0, 1}, 6, api.OK}, {two(5, 1), alike(4), []int{0, 3, 0}, 7, api.OK}, {two(0, 1), alike(4), []int{0, 1, 2}, 2, api.OK},
		{two(5, 0), alike(4), []int{0, 3, 0}, 5, api.OK}, {two(0, 0), alike(4), []int{0, 1, 2}, 0, api.OK}, {two(0, 0), alike(6), []int{0, 1, 2, 1, 0}, 0, api.OK},
		{two(5, 1), alike(5), []int{0, 1, 3, 0}, 13, api.OK}, {two(1, 5), alike(7), []int{0, 1, 3, 0, 3, 0}, 28, api.OK},
		// It can be cheaper to stop more often than one must, and cheaper to bend more often.
		{two(1, 5), alike(6), []int{0, 1, 2, 1, 0}, 18, api.OK}, {two(5, 1), alike(6), []int{0, 3, 0, 3, 0}, 14, api.OK},
		// The most of all.
		{die(1001, 10000, 10000, fiveBlades()...), slices.Repeat(stints(1000, 0), 7), []int{31, 31, 31, 31, 31, 31}, 360000, api.OK},
		{die(2001, 1, 10000, fiveBlades()...), slices.Repeat(stints(1000, 0), 7), []int{0, 31, 0, 31, 0, 31}, 150003, api.OK},
		{die(2001, 0, 0, fiveBlades()...), slices.Repeat(stints(1000, 0), 7), []int{0, 31, 0, 31, 0, 31}, 0, api.OK},
	} {
		plan, cost, e := rule.Plan(c.d, c.l)
		if !slices.Equal(plan, c.want) || cost != c.cost || e != c.e {
			t.Errorf("%d: Plan = %v, %d, error %d", i, plan, cost, e)
		}
	}
}

// P4.5.
func TestProof(t *testing.T) {
	two := die(6, 5, 1, blade(0, 0, 2, 2), blade(0, 0, 3, 3))
	for i, c := range []struct {
		d      api.Die
		l      []api.Stint
		rows   []api.Span
		blades []int
		e      api.Errno
	}{
		{exampleDie(), exampleStints(), []api.Span{span(0, 1), span(1, 2), span(2, 3)}, []int{0, 0, 0}, api.OK},
		{exampleDie(), stints(8, 0, 6, 0, 9, 5, 12, 0), nil, nil, api.ErrNone},
		// No stints, or just one.
		{exampleDie(), nil, nil, nil, api.OK}, {exampleDie(), stints(11, 0), nil, nil, api.OK}, {exampleDie(), stints(12, 0), nil, nil, api.ErrNone}, {exampleDie(), stints(12, 1), nil, nil, api.OK},
		// What can be run through up to the last stint.
		{exampleDie(), stints(5, 0, 6, 0), nil, nil, api.OK}, {exampleDie(), alike(7), nil, nil, api.OK}, {exampleDie(), stints(5, 0, 7, 0), []api.Span{span(0, 1)}, []int{0}, api.OK},
		{exampleDie(), stints(5, 0, 7, 0, 4, 0), []api.Span{span(0, 1)}, []int{0}, api.OK}, {exampleDie(), stints(5, 0, 7, 0, 5, 0), []api.Span{span(0, 1), span(1, 2)}, []int{0, 0}, api.OK},
		// Each row begins with the last stint of the row before it.
		{two, alike(7), []api.Span{span(0, 2), span(2, 4), span(4, 6)}, []int{1, 1, 1}, api.OK}, {two, alike(6), []api.Span{span(0, 2), span(2, 4)}, []int{1, 1}, api.OK},
		{two, stints(2, 0, 1, 0, 1, 0, 2, 0, 1, 0), []api.Span{span(0, 1), span(1, 3), span(3, 4)}, []int{1, 0, 1}, api.OK},
		// The first blade of several that cannot run through; one that comes behind it, but in an earlier stint.
		{two, stints(2, 0, 2, 0), []api.Span{span(0, 1)}, []int{0}, api.OK}, {two, stints(1, 0, 2, 0, 2, 0), []api.Span{span(0, 1), span(1, 2)}, []int{1, 0}, api.OK},
		{two, stints(1, 0, 2, 3, 1, 0), []api.Span{span(0, 2)}, []int{0}, api.OK},
		// A More of the last stint of a row, of one within it, and of the first one.
		{two, stints(1, 0, 1, 0, 1, 3), nil, nil, api.OK}, {two, stints(1, 0, 1, 0, 1, 2), []api.Span{span(0, 2)}, []int{1}, api.OK},
		{two, stints(1, 0, 2, 3, 1, 6), nil, nil, api.OK}, {two, stints(3, 3, 1, 0), []api.Span{span(0, 1)}, []int{0}, api.OK}, {two, stints(3, 3, 1, 2), []api.Span{span(0, 1)}, []int{1}, api.OK},
		// No plan is good: no rows, though some stints cannot be run through.
		{two, stints(2, 0, 2, 0, 3, 0), nil, nil, api.ErrNone}, {two, stints(2, 0, 2, 0, 3, 2), nil, nil, api.ErrNone}, {two, stints(2, 0, 2, 0, 3, 3), []api.Span{span(0, 1), span(1, 2)}, []int{0, 0}, api.OK},
		{die(9, 0, 0, blade(0, 0, 0, 0), blade(10, 10, 0, 0)), alike(2), nil, nil, api.ErrNone},
		{die(1001, 0, 0, fiveBlades()...), slices.Repeat(stints(1000, 0), 7), []api.Span{span(0, 1), span(1, 2), span(2, 3), span(3, 4), span(4, 5), span(5, 6)}, make([]int, 6), api.OK},
	} {
		if rows, blades, e := rule.Proof(c.d, c.l); !slices.Equal(rows, c.rows) || !slices.Equal(blades, c.blades) || e != c.e {
			t.Errorf("%d: Proof = %v, %v, error %d", i, rows, blades, e)
		}
	}
}

// A die that is none comes before all other errors, stints that are none before what comes of them.
func TestErrorsComeInTheirOrder(t *testing.T) {
	lists := append(badStints(), nil, alike(3), stints(1000, 0))
	check := func(name string, e, want api.Errno, zero bool) {
		if e != want || !zero {
			t.Errorf("%s has the error %d, not %d, or something beside it", name, e, want)
		}
	}
	dies := func(d api.Die, l []api.Stint, want api.Errno) {
		for _, plan := range [][]int{nil, {1, 1}, {-1}, make([]int, 9)} {
			cost, stint, blade, e := rule.Follow(d, l, plan)
			check("Follow", e, want, cost == 0 && stint == 0 && blade == 0)
		}
		plan, cost, e := rule.Plan(d, l)
		check("Plan", e, want, len(plan) == 0 && cost == 0)
		rows, blades, e := rule.Proof(d, l)
		check("Proof", e, want, len(rows) == 0 && len(blades) == 0)
	}
	for _, d := range badDies() {
		for _, n := range []int{0, -1, 1 << 20} {
			s, e := rule.Off(d, n, n)
			check("Off", e, api.ErrArg, s == api.Span{})
			s, e = rule.Lasts(d, n, n)
			check("Lasts", e, api.ErrArg, s == api.Span{})
		}
		for _, l := range lists {
			dies(d, l, api.ErrArg)
		}
	}
	for _, l := range badStints() {
		dies(exampleDie(), l, api.ErrRange)
		dies(die(0, 0, 0, blade(1, 1, 0, 0)), l, api.ErrRange)
	}
}

// What is just within the limits is valid.
func TestLimits(t *testing.T) {
	for i, d := range []api.Die{widest(), die(0, 0, 0, blade(0, 0, 0, 0)), die(0, 0, 0, fiveBlades()...), die(api.MaxBound, 0, api.MaxPrice, fiveBlades()...)} {
		if _, e := rule.Off(d, 0, 0); e != api.OK {
			t.Errorf("%d: Off has the error %d", i, e)
		}
		if _, e := rule.Lasts(d, 0, 2*api.MaxBound); e != api.OK {
			t.Errorf("%d: Lasts has the error %d", i, e)
		}
		for _, l := range [][]api.Stint{nil, alike(1), alike(7), stints(api.MaxRun, 0), stints(1, api.MaxBound)} {
			if _, _, e := rule.Plan(d, l); e != api.OK && e != api.ErrNone {
				t.Errorf("%d: Plan has the error %d", i, e)
			}
			if _, _, e := rule.Proof(d, l); e != api.OK && e != api.ErrNone {
				t.Errorf("%d: Proof has the error %d", i, e)
			}
			if _, _, _, e := rule.Follow(d, l, make([]int, max(0, len(l)-1))); e != api.OK && e != api.ErrRefuse {
				t.Errorf("%d: Follow has the error %d", i, e)
			}
		}
	}
}
