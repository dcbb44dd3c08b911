package press_test

import (
	"math"
	"slices"
	"testing"

	"jigworks/api"
	"jigworks/press"
)

// P5.1.
func TestFringe(t *testing.T) {
	for i, c := range []struct {
		l        []api.Shift
		side, up api.Span
	}{
		{exampleShifts(), span(1, 6), span(0, 0)},
		// One colour alone, known just or not.
		{shifts(5, 5, -3, -3), span(0, 0), span(0, 0)}, {shifts(-1000, 1000, -9, 7), span(0, 0), span(0, 0)}, {shifts(-4, -2, 0, 9), span(0, 0), span(0, 0)},
		// Two, which overlap, touch, lie side by side or apart; below 0, too.
		{shifts(0, 4, 0, 4, 2, 7, 4, 7), span(0, 7), span(0, 7)}, {shifts(0, 4, 0, 4, 5, 7, 6, 7), span(1, 7), span(2, 7)}, {shifts(5, 7, 6, 7, 0, 4, 0, 4), span(1, 7), span(2, 7)},
		{shifts(-9, -5, -3, -3, -4, -2, -8, -8), span(1, 7), span(5, 5)}, {shifts(-3, -1, -1, 1, 2, 4, -1, 1), span(3, 7), span(0, 2)}, {shifts(-5, -5, -6, -5, 5, 5, 6, 6), span(10, 10), span(11, 12)},
		{shifts(3, 3, -3, -3, 3, 3, -3, -3), span(0, 0), span(0, 0)},
		// One that is known little: it does not lie apart from itself.
		{shifts(-10, 10, 0, 0, 0, 0, -10, 10), span(0, 10), span(0, 10)}, {shifts(0, 0, -10, 10, -10, 10, 2, 3), span(0, 10), span(0, 13)}, {shifts(-10, 10, 0, 0, 1, 2, 0, 0, 4, 4, 0, 0), span(2, 14), span(0, 0)},
		{shifts(4, 4, 0, 0, -10, 10, 0, 0, -20, 9, 0, 0), span(0, 30), span(0, 0)}, {shifts(-10, 30, 0, 0, -20, 9, 0, 0, 0, 0, 0, 0), span(0, 50), span(0, 0)},
		// The two that must differ most are not those that can.
		{shifts(0, 0, 0, 0, 3, 3, 0, 0, 1, 9, 0, 0), span(3, 9), span(0, 0)}, {shifts(0, 9, 0, 0, 3, 3, 0, 0, 6, 6, 0, 0), span(3, 6), span(0, 0)},
		// To the side and upward by themselves; the greatest numbers; the most colours.
		{shifts(0, 1, 7, 7, 5, 6, 2, 3), span(4, 6), span(4, 5)}, {shifts(-1000, -1000, -1000, 1000, 1000, 1000, -1000, 1000), span(2000, 2000), span(0, 2000)},
		{shifts(1000, 1000, 1000, 1000), span(0, 0), span(0, 0)}, {slices.Repeat(shifts(-1, 2, 0, 1), 8), span(0, 3), span(0, 1)},
		{append(slices.Repeat(shifts(-1, 2, 3, 3), 7), shifts(4, 5, -1, -1)...), span(2, 6), span(4, 4)},
	} {
		if side, up, e := press.Fringe(c.l); side != c.side || up != c.up || e != api.OK {
			t.Errorf("%d: Fringe = %v, %v, error %d", i, side, up, e)
		}
	}
}

// P5.2.
func TestGood(t *testing.T) {
	for i, c := range []struct {
		spoil  api.Span
		sheets int
		want   api.Span
		e      api.Errno
	}{
		{exampleSpoilage(), 100, span(95, 98), api.OK}, {exampleSpoilage(), 0, span(0, 0), api.OK},
		// Rounded down at one end, and up at the other.
		{exampleSpoilage(), 1, span(0, 1), api.OK}, {exampleSpoilage(), 19, span(18, 19), api.OK}, {exampleSpoilage(), 20, span(19, 20), api.OK}, {exampleSpoilage(), 21, span(19, 21), api.OK},
		{exampleSpoilage(), 49, span(46, 49), api.OK}, {exampleSpoilage(), 50, span(47, 49), api.OK}, {exampleSpoilage(), 51, span(48, 50), api.OK}, {exampleSpoilage(), 99, span(94, 98), api.OK}, {exampleSpoilage(), 101, span(95, 99), api.OK},
		{span(1, 1), 999, span(998, 999), api.OK}, {span(1, 1), 1000, span(999, 999), api.OK}, {span(1, 1), 1001, span(999, 1000), api.OK}, {span(333, 333), 10, span(6, 7), api.OK}, {span(500, 500), 3, span(1, 2), api.OK},
		// A spoilage of 0, and one of 900.
		{span(0, 0), 0, span(0, 0), api.OK}, {span(0, 0), 1, span(1, 1), api.OK}, {span(0, 0), 12345, span(12345, 12345), api.OK}, {span(0, 900), 7, span(0, 7), api.OK},
		{span(900, 900), 1, span(0, 1), api.OK}, {span(900, 900), 9, span(0, 1), api.OK}, {span(900, 900), 10, span(1, 1), api.OK}, {span(900, 900), 11, span(1, 2), api.OK}, {span(899, 900), 1000, span(100, 101), api.OK},
		// The most sheets, and numbers of sheets that are none.
		{span(0, 900), 1 << 20, span(104857, 1048576), api.OK}, {span(900, 900), 1 << 20, span(104857, 104858), api.OK}, {span(0, 0), 1 << 20, span(1048576, 1048576), api.OK}, {span(1, 899), 1<<20 - 1, span(105906, 1047527), api.OK},
		{exampleSpoilage(), -1, api.Span{}, api.ErrRange}, {exampleSpoilage(), 1<<20 + 1, api.Span{}, api.ErrRange}, {span(0, 0), math.MinInt, api.Span{}, api.ErrRange}, {span(0, 0), math.MaxInt, api.Span{}, api.ErrRange},
	} {
		if s, e := press.Good(c.spoil, c.sheets); s != c.want || e != c.e {
			t.Errorf("%d: Good = %v, error %d", i, s, e)
		}
	}
}

// P5.3.
func TestSheets(t *testing.T) {
	for i, c := range []struct {
		spoil      api.Span
		need, want int
		e          api.Errno
	}{
		{exampleSpoilage(), 95, 100, api.OK}, {exampleSpoilage(), 94, 99, api.OK}, {exampleSpoilage(), 96, 102, api.OK}, {exampleSpoilage(), 0, 0, api.OK}, {exampleSpoilage(), 1, 2, api.OK},
		{exampleSpoilage(), 18, 19, api.OK}, {exampleSpoilage(), 19, 20, api.OK}, {exampleSpoilage(), 20, 22, api.OK}, {exampleSpoilage(), 50000, 52632, api.OK},
		// What is spoilt at the least makes no difference.
		{span(0, 50), 95, 100, api.OK}, {span(50, 50), 95, 100, api.OK}, {span(50, 51), 95, 101, api.OK},
		// A spoilage of 0, and one of 900.
		{span(0, 0), 0, 0, api.OK}, {span(0, 0), 1, 1, api.OK}, {span(0, 0), 50000, 50000, api.OK}, {span(900, 900), 0, 0, api.OK}, {span(900, 900), 1, 10, api.OK}, {span(0, 900), 2, 20, api.OK}, {span(0, 900), 50000, 500000, api.OK},
		{span(1, 1), 999, 1000, api.OK}, {span(1, 1), 1000, 1002, api.OK}, {span(899, 899), 50000, 495050, api.OK}, {span(300, 333), 2, 3, api.OK}, {span(300, 334), 2, 4, api.OK}, {span(500, 500), 1, 2, api.OK},
		// Needs that are none.
		{exampleSpoilage(), -1, 0, api.ErrRange}, {exampleSpoilage(), 50001, 0, api.ErrRange}, {span(0, 0), math.MinInt, 0, api.ErrRange}, {span(0, 0), math.MaxInt, 0, api.ErrRange},
	} {
		if n, e := press.Sheets(c.spoil, c.need); n != c.want || e != c.e {
			t.Errorf("%d: Sheets = %d, error %d", i, n, e)
		}
	}
}

// P5.4, P5.5, P5.7: an order of jobs.
func TestOrders(t *testing.T) {
	seven := slices.Repeat(jobs(0, 1000, 0, 1000, 7000), 7)
	for i, c := range []struct {
		l           []api.Job
		order       []int
		ends        []api.Span
		surely, can int
		job, hour   int
	}{
		{exampleJobs(), []int{1, 0, 2}, []api.Span{span(7, 11), span(5, 8), span(10, 12)}, 0, 1, 1, 12},
		{exampleJobs(), []int{0, 1, 2}, []api.Span{span(5, 7), span(9, 13), span(10, 14)}, 2, 2, 0, 14},
		// Just one job: late in each truth, in some, in none.
		{jobs(1, 2, 3, 4, 3), []int{0}, []api.Span{span(4, 6)}, 1, 1, 0, 6}, {jobs(1, 2, 3, 4, 4), []int{0}, []api.Span{span(4, 6)}, 0, 1, 0, 6},
		{jobs(1, 2, 3, 4, 5), []int{0}, []api.Span{span(4, 6)}, 0, 1, 0, 6}, {jobs(1, 2, 3, 4, 6), []int{0}, []api.Span{span(4, 6)}, 0, 0, 0, 6}, {jobs(2, 2, 3, 3, 4), []int{0}, []api.Span{span(5, 5)}, 1, 1, 0, 5},
		// The second job waits for the laminating press, or that waits for it, or neither.
		{just(1, 5, 2, 1), []int{0, 1}, []api.Span{span(6, 6), span(7, 7)}, 0, 0, 0, 7}, {just(1, 5, 7, 1), []int{0, 1}, []api.Span{span(6, 6), span(9, 9)}, 0, 0, 1, 9},
		{just(1, 5, 5, 1), []int{0, 1}, []api.Span{span(6, 6), span(7, 7)}, 0, 0, 0, 7}, {just(1, 5, 6, 1), []int{0, 1}, []api.Span{span(6, 6), span(8, 8)}, 0, 0, 1, 8},
		{jobs(1, 1, 2, 6, 9, 4, 4, 1, 1, 9), []int{0, 1}, []api.Span{span(3, 7), span(6, 8)}, 0, 0, 0, 8}, {jobs(1, 1, 4, 4, 5, 1, 9, 1, 1, 6), []int{0, 1}, []api.Span{span(5, 5), span(6, 11)}, 0, 2, 1, 11},
		{just(1, 5, 2, 1), []int{1, 0}, []api.Span{span(8, 8), span(3, 3)}, 0, 0, 1, 8},
		// Jobs of 0 hours, which still wait for those before them.
		{just(0, 0), []int{0}, []api.Span{span(0, 0)}, 0, 0, 0, 0}, {just(0, 0, 0, 0), []int{1, 0}, []api.Span{span(0, 0), span(0, 0)}, 0, 0, 1, 0}, {just(2, 3, 0, 0), []int{0, 1}, []api.Span{span(5, 5), span(5, 5)}, 0, 0, 0, 5},
		{just(2, 3, 0, 0), []int{1, 0}, []api.Span{span(5, 5), span(0, 0)}, 0, 0, 0, 5}, {just(2, 0, 0, 3), []int{0, 1}, []api.Span{span(2, 2), span(5, 5)}, 0, 0, 0, 5}, {just(0, 3, 2, 0), []int{0, 1}, []api.Span{span(3, 3), span(3, 3)}, 0, 0, 0, 3},
		{jobs(0, 0, 0, 0, 0, 0, 1, 0, 0, 0), []int{1, 0}, []api.Span{span(0, 1), span(0, 1)}, 0, 3, 1, 1},
		// Several jobs whose paths take as long: the first one in the order, be its number less or not.
		{just(1, 2, 2, 3, 3, 1), []int{0, 1, 2}, []api.Span{span(3, 3), span(6, 6), span(7, 7)}, 0, 0, 0, 7}, {just(2, 2, 2, 2, 2, 2), []int{2, 0, 1}, []api.Span{span(6, 6), span(8, 8), span(4, 4)}, 0, 0, 2, 8},
		{just(2, 5, 1, 2), []int{1, 0}, []api.Span{span(8, 8), span(3, 3)}, 0, 0, 1, 8}, {just(1, 1, 2, 2, 2, 2), []int{0, 2, 1}, []api.Span{span(2, 2), span(7, 7), span(5, 5)}, 0, 0, 2, 7},
		// The greatest numbers, the most jobs, and the last hour.
		{seven, []int{6, 5, 4, 3, 2, 1, 0}, []api.Span{span(0, 8000), span(0, 7000), span(0, 6000), span(0, 5000), span(0, 4000), span(0, 3000), span(0, 2000)}, 0, 1, 6, 8000},
		{just(1000, 1000), []int{0}, []api.Span{span(2000, 2000)}, 0, 0, 0, 2000}, {jobs(1, 1, 0, 0, 0, 1, 1, 0, 0, 0), []int{1, 0}, []api.Span{span(2, 2), span(1, 1)}, 3, 3, 0, 2},
		{slices.Repeat(jobs(1, 1, 0, 0, 0), 7), inTurn(7), []api.Span{span(1, 1), span(2, 2), span(3, 3), span(4, 4), span(5, 5), span(6, 6), span(7, 7)}, 127, 127, 6, 7},
	} {
		if ends, e := press.Run(c.l, c.order); !slices.Equal(ends, c.ends) || e != api.OK {
			t.Errorf("%d: Run = %v, error %d", i, ends, e)
		}
		if surely, can, e := press.Late(c.l, c.order); surely != c.surely || can != c.can || e != api.OK {
			t.Errorf("%d: Late = %b, %b, error %d", i, surely, can, e)
		}
		if job, hour, e := press.Why(c.l, c.order); job != c.job || hour != c.hour || e != api.OK {
			t.Errorf("%d: Why = %d, %d, error %d", i, job, hour, e)
		}
	}
}

// P5.4 to P5.7, R3: no jobs.
func TestNoJobs(t *testing.T) {
	for _, l := range [][]api.Job{nil, {}} {
		for _, order := range [][]int{nil, {}} {
			if ends, e := press.Run(l, order); len(ends) != 0 || e != api.OK {
				t.Errorf("Run = %v, error %d", ends, e)
			}
			if surely, can, e := press.Late(l, order); surely != 0 || can != 0 || e != api.OK {
				t.Errorf("Late = %d, %d, error %d", surely, can, e)
			}
			if job, hour, e := press.Why(l, order); job != 0 || hour != 0 || e != api.ErrRange {
				t.Errorf("Why = %d, %d, error %d", job, hour, e)
			}
		}
		if order, hour, e := press.Best(l); len(order) != 0 || hour != 0 || e != api.OK {
			t.Errorf("Best = %v, %d, error %d", order, hour, e)
		}
	}
}

// P5.6.
func TestBest(t *testing.T) {
	for i, c := range []struct {
		l     []api.Job
		order []int
		hour  int
	}{
		{exampleJobs(), []int{1, 0, 2}, 12}, {jobs(1, 2, 3, 4, 0), []int{0}, 6},
		// What jobs take at the least, and when they are due, makes no difference.
		{jobs(0, 4, 0, 3, 0, 0, 2, 6, 6, 0, 0, 5, 1, 1, 99), []int{1, 0, 2}, 12}, {jobs(0, 5, 1, 1, 0, 4, 4, 2, 2, 0), []int{1, 0}, 10}, {jobs(5, 5, 1, 1, 6, 4, 4, 2, 2, 10), []int{1, 0}, 10},
		// Several orders that are done as early, alike jobs or not: the first one.
		{just(2, 1, 2, 1), []int{0, 1}, 5}, {just(1, 2, 2, 3, 3, 1), []int{0, 1, 2}, 7}, {just(2, 3, 2, 2, 1, 2), []int{2, 0, 1}, 8}, {just(2, 2, 2, 2, 1, 9, 2, 2), []int{2, 0, 1, 3}, 16},
		{just(1, 1, 1, 1, 0, 1), []int{2, 0, 1}, 3}, {just(3, 0, 0, 3, 3, 0), []int{0, 1, 2}, 6}, {just(3, 1, 3, 2, 3, 1, 3, 2), []int{0, 1, 3, 2}, 13}, {just(3, 2, 3, 1, 3, 2, 3, 2), []int{0, 2, 3, 1}, 13},
		{just(1, 3, 1, 3, 1, 2, 1, 3), []int{0, 1, 2, 3}, 12}, {just(9, 0, 1, 0, 4, 0), []int{0, 1, 2}, 14}, {just(0, 9, 0, 1, 0, 4), []int{0, 1, 2}, 14},
		// Jobs of 0 hours.
		{just(0, 0), []int{0}, 0}, {just(0, 0, 0, 0, 0, 0), []int{0, 1, 2}, 0}, {just(2, 3, 0, 0), []int{0, 1}, 5}, {just(2, 0, 0, 3), []int{1, 0}, 3},
		// The most jobs: the first order, the last one, and one between.
		{slices.Repeat(just(1000, 1000), 7), inTurn(7), 8000}, {just(1, 2, 2, 3, 3, 4, 4, 5, 5, 6, 6, 7, 7, 8), inTurn(7), 36}, {just(8, 9, 7, 8, 5, 7, 4, 5, 2, 4, 1, 2, 0, 1), []int{6, 5, 4, 3, 2, 1, 0}, 36},
		{just(2, 1, 3, 2, 4, 3, 5, 4, 6, 5, 7, 6, 8, 7), []int{6, 5, 4, 3, 2, 1, 0}, 36}, {just(8, 7, 2, 9, 7, 6, 3, 9, 6, 5, 0, 2, 5, 0), []int{5, 1, 0, 2, 3, 4, 6}, 38},
	} {
		if order, hour, e := press.Best(c.l); !slices.Equal(order, c.order) || hour != c.hour || e != api.OK {
			t.Errorf("%d: Best = %v, %d, error %d", i, order, hour, e)
		}
	}
}

// checkOrder checks the errors of the functions that are given an order.
func checkOrder(t *testing.T, l []api.Job, order []int, want api.Errno) {
	t.Helper()
	if ends, e := press.Run(l, order); len(ends) != 0 || e != want {
		t.Errorf("%v, %v: Run = %v, error %d, not %d", l, order, ends, e, want)
	}
	if surely, can, e := press.Late(l, order); surely != 0 || can != 0 || e != want {
		t.Errorf("%v, %v: Late = %d, %d, error %d, not %d", l, order, surely, can, e, want)
	}
	if job, hour, e := press.Why(l, order); job != 0 || hour != 0 || e != want {
		t.Errorf("%v, %v: Why = %d, %d, error %d, not %d", l, order, job, hour, e, want)
	}
}

// P5.4, P5.5, P5.7: lists that are no orders.
func TestListsThatAreNoOrders(t *testing.T) {
	for n := range api.MaxJobs + 1 {
		for _, order := range badOrders(n) {
			checkOrder(t, alike(n), order, api.ErrRange)
		}
	}
	checkOrder(t, exampleJobs(), nil, api.ErrRange)
	checkOrder(t, exampleJobs(), []int{1, 2, 3}, api.ErrRange)
	checkOrder(t, exampleJobs(), []int{0, 0, 2}, api.ErrRange)
}

// What is not valid comes before all other errors.
func TestErrorsComeInTheirOrder(t *testing.T) {
	for _, l := range badShifts() {
		if side, up, e := press.Fringe(l); side != (api.Span{}) || up != (api.Span{}) || e != api.ErrArg {
			t.Errorf("%v: Fringe = %v, %v, error %d", l, side, up, e)
		}
	}
	for _, spoil := range badSpans(0, api.MaxSpoil) {
		for _, n := range []int{0, 1, -1, 50001, 1 << 21, math.MinInt, math.MaxInt} {
			if s, e := press.Good(spoil, n); s != (api.Span{}) || e != api.ErrArg {
				t.Errorf("%v: Good of %d = %v, error %d", spoil, n, s, e)
			}
			if sheets, e := press.Sheets(spoil, n); sheets != 0 || e != api.ErrArg {
				t.Errorf("%v: Sheets for %d = %d, error %d", spoil, n, sheets, e)
			}
		}
	}
	for _, l := range badJobs() {
		if order, hour, e := press.Best(l); len(order) != 0 || hour != 0 || e != api.ErrArg {
			t.Errorf("%v: Best = %v, %d, error %d", l, order, hour, e)
		}
		for _, order := range [][]int{nil, inTurn(len(l)), {0, 0}, {-1}, {math.MaxInt}} {
			checkOrder(t, l, order, api.ErrArg)
		}
	}
}

// What is just within the limits is valid.
func TestLimits(t *testing.T) {
	for _, l := range [][]api.Shift{shifts(-1000, 1000, -1000, 1000), slices.Repeat(shifts(1000, 1000, -1000, -1000), 8)} {
		if _, _, e := press.Fringe(l); e != api.OK {
			t.Errorf("%v: Fringe has the error %d", l, e)
		}
	}
	for _, l := range [][]api.Job{alike(7), jobs(0, 1000, 0, 1000, 1<<20), jobs(0, 0, 0, 0, 0), slices.Repeat(jobs(1000, 1000, 1000, 1000, 1<<20), 7)} {
		if _, _, e := press.Best(l); e != api.OK {
			t.Errorf("%v: Best has the error %d", l, e)
		}
		if _, e := press.Run(l, inTurn(len(l))); e != api.OK {
			t.Errorf("%v: Run has the error %d", l, e)
		}
		if _, _, e := press.Late(l, inTurn(len(l))); e != api.OK {
			t.Errorf("%v: Late has the error %d", l, e)
		}
		if _, _, e := press.Why(l, inTurn(len(l))); e != api.OK {
			t.Errorf("%v: Why has the error %d", l, e)
		}
	}
}
