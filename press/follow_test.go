package press_test

import (
	"cmp"
	"iter"
	"math"
	"math/bits"
	"slices"
	"testing"

	"jigworks/api"
	"jigworks/press"
)

// within checks that a span is within another one.
func within(t *testing.T, s, all api.Span) {
	t.Helper()
	if s.Lo > s.Hi || s.Lo < all.Lo || s.Hi > all.Hi {
		t.Errorf("%v is not within %v", s, all)
	}
}

// P5.1, P5.9, P3: all truths, and both ends of them.
func TestFringeInTruth(t *testing.T) {
	var s seeds
	var apart, together, alone int
	for range 60 {
		for colours := 1; colours <= api.MaxColours; colours++ {
			l := s.shifts(colours, []int{9, 9, 9, 6, 4, 2, 2, 1}[colours-1])
			x, y := sides(l)
			side, up, e := press.Fringe(l)
			if side != slowFringe(x) || up != slowFringe(y) || e != api.OK {
				t.Fatalf("%v: Fringe = %v, %v, error %d, not %v, %v", l, side, up, e, slowFringe(x), slowFringe(y))
			}
			if side.Lo > 0 {
				apart++
			} else {
				together++
			}
			if side.Hi < reach(x) {
				alone++
			}
		}
	}
	if min(apart, together) < 100 || alone < 30 {
		t.Errorf("%d have colours that must lie apart, %d have none; of %d the lowest and the highest shift are of one colour alone", apart, together, alone)
	}
}

// spoilages yields spoilages at the bounds, and some others.
func spoilages() iter.Seq[api.Span] {
	return func(yield func(api.Span) bool) {
		var s seeds
		for _, lo := range []int{0, 1, 20, 333, 500, 899, 900} {
			for _, hi := range []int{0, 1, 50, 333, 501, 899, 900} {
				if lo <= hi && !yield(span(lo, hi)) {
					return
				}
			}
		}
		for range 30 {
			if !yield(s.span(0, api.MaxSpoil, api.MaxSpoil)) {
				return
			}
		}
	}
}

// P5.2, P5.9: the spoilt sheets are counted.
func TestGoodIsCounted(t *testing.T) {
	for spoil := range spoilages() {
		for sheets := range 1200 {
			if s, e := press.Good(spoil, sheets); s != slowGood(spoil, sheets) || e != api.OK {
				t.Fatalf("%v: Good of %d = %v, error %d, not %v", spoil, sheets, s, e, slowGood(spoil, sheets))
			}
		}
	}
}

// P5.3, P5.9: as many sheets are good as are needed, and with one less that is not so in each truth.
func TestSheetsAreEnough(t *testing.T) {
	for spoil := range spoilages() {
		sheets := 0
		for need := range 130 {
			for slowGood(spoil, sheets).Lo < need {
				sheets++
			}
			if n, e := press.Sheets(spoil, need); n != sheets || e != api.OK {
				t.Fatalf("%v: Sheets for %d = %d, error %d, not %d", spoil, need, n, e, sheets)
			}
		}
		for _, need := range []int{0, 1, 999, 1000, 1001, 12345, 33333, 49999, 50000} {
			n, e := press.Sheets(spoil, need)
			if s, f := press.Good(spoil, n); s.Lo < need || e != api.OK || f != api.OK {
				t.Errorf("%v: Sheets for %d = %d, error %d, of which %v are good, error %d", spoil, need, n, e, s, f)
			}
			if s, _ := press.Good(spoil, n-1); n > 0 && s.Lo >= need {
				t.Errorf("%v: Sheets for %d = %d, but of one less %v are good", spoil, need, n, s)
			}
		}
	}
}

// some yields jobs that are few, or known well, enough to go through all truths, and an order of them.
func some(rounds int) iter.Seq2[[]api.Job, []int] {
	return func(yield func([]api.Job, []int) bool) {
		var s seeds
		for range rounds {
			for many, wide := range []int{0, 9, 5, 2, 1, 1, 0, 0} {
				if !yield(s.jobs(many, wide), s.order(many)) {
					return
				}
			}
		}
	}
}

// P5.4, P5.5, P5.9, P3: all truths, hour by hour, and both ends of them.
func TestRunInTruth(t *testing.T) {
	var surelyLate, maybeLate, neverLate int
	for l, order := range some(80) {
		ends, surely, can := slowRun(l, order)
		if got, e := press.Run(l, order); !slices.Equal(got, ends) || e != api.OK {
			t.Fatalf("%v, %v: Run = %v, error %d, not %v", l, order, got, e, ends)
		}
		if a, b, e := press.Late(l, order); a != surely || b != can || e != api.OK {
			t.Fatalf("%v, %v: Late = %b, %b, error %d, not %b, %b", l, order, a, b, e, surely, can)
		}
		surelyLate += bits.OnesCount(uint(surely))
		maybeLate += bits.OnesCount(uint(can &^ surely))
		neverLate += len(l) - bits.OnesCount(uint(can))
	}
	if min(surelyLate, maybeLate, neverLate) < 80 {
		t.Errorf("%d jobs are late, %d can be, %d are not", surelyLate, maybeLate, neverLate)
	}
}

// byRule returns the order of P5.9: first the jobs that can take less long to be printed than to be laid.
func byRule(l []api.Job) []int {
	var first, others []int
	for i, j := range l {
		if j.Print.Hi < j.Lay.Hi {
			first = append(first, i)
		} else {
			others = append(others, i)
		}
	}
	slices.SortStableFunc(first, func(a, b int) int { return cmp.Compare(l[a].Print.Hi, l[b].Print.Hi) })
	slices.SortStableFunc(others, func(a, b int) int { return cmp.Compare(l[b].Lay.Hi, l[a].Lay.Hi) })
	return append(first, others...)
}

// P5.6, P5.9, P5: no order is done earlier than the best one, and of those that are as early it is the first.
func TestAllOrders(t *testing.T) {
	var s seeds
	var tied, alone [8]int
	for many, rounds := range []int{1, 20, 60, 60, 60, 40, 20, 12} {
		for range rounds {
			l := s.jobs(many, 6)
			if s.upTo(4) == 0 && many > 1 {
				l[s.upTo(many)] = l[0]
			}
			order, hour, e := press.Best(l)
			best, n, earliest := slowBest(l)
			if !slices.Equal(order, best) || hour != n || e != api.OK {
				t.Fatalf("%v: Best = %v, %d, error %d, not %v, %d", l, order, hour, e, best, n)
			}
			print, lay := worst(l)
			if n := doneIn(print, lay, byRule(l)); n != hour {
				t.Errorf("%v: Best is done at %d, %v at %d", l, hour, byRule(l), n)
			}
			if earliest > 1 {
				tied[many]++
			} else {
				alone[many]++
			}
		}
	}
	if slices.Min(tied[2:]) < 3 || slices.Min(alone[2:5]) < 3 {
		t.Errorf("by jobs, several orders are done as early: %v; one alone is: %v", tied, alone)
	}
}

// P5.6: many jobs that take as long as others, or no time at all.
func TestAlikeJobs(t *testing.T) {
	var s seeds
	for range 30 {
		var l []api.Job
		for range 6 {
			l = append(l, just(s.upTo(3), s.upTo(3))...)
			l[len(l)-1].Print.Lo = 0
		}
		order, hour, e := press.Best(l)
		if best, n, _ := slowBest(l); !slices.Equal(order, best) || hour != n || e != api.OK {
			t.Errorf("%v: Best = %v, %d, error %d, not %v, %d", l, order, hour, e, best, n)
		}
	}
}

// P5.7, P5.9: the first path that takes until all is done, and that no path takes longer.
func TestWhyInTruth(t *testing.T) {
	var s seeds
	several, behind := 0, 0
	for range 60 {
		for many := 1; many <= api.MaxJobs; many++ {
			l, order := s.jobs(many, 6), s.order(many)
			job, hour, e := press.Why(l, order)
			why, n, paths := slowWhy(l, order)
			if job != why || hour != n || e != api.OK {
				t.Fatalf("%v, %v: Why = %d, %d, error %d, not %d, %d", l, order, job, hour, e, why, n)
			}
			print, lay := worst(l)
			for place := range order {
				if n := path(print, lay, order, place); n > hour {
					t.Errorf("%v, %v: all is done at %d, but the path of %d takes %d", l, order, hour, order[place], n)
				}
			}
			ends, _ := press.Run(l, order)
			if ends[order[many-1]].Hi != hour {
				t.Errorf("%v, %v: all is done at %d, but the last job ends in %v", l, order, hour, ends[order[many-1]])
			}
			if paths > 1 {
				several++
			}
			if job != order[0] {
				behind++
			}
		}
	}
	if several < 50 || behind < 100 {
		t.Errorf("%d have several such paths, and of %d it is not that of the first job", several, behind)
	}
}

// P5.9, P3: with narrower spans no span is wider, and what was surely late, or not, still is so.
func TestNarrowerSpans(t *testing.T) {
	var s seeds
	for range 300 {
		l := s.shifts(1+s.upTo(8), 9)
		m := slices.Clone(l)
		for i := range m {
			m[i] = api.Shift{X: s.narrowed(l[i].X), Y: s.narrowed(l[i].Y)}
		}
		side, up, _ := press.Fringe(l)
		x, y, _ := press.Fringe(m)
		within(t, x, side)
		within(t, y, up)
		spoil, sheets := s.span(0, api.MaxSpoil, api.MaxSpoil), s.upTo(5000)
		less := s.narrowed(spoil)
		all, _ := press.Good(spoil, sheets)
		good, _ := press.Good(less, sheets)
		within(t, good, all)
		most, _ := press.Sheets(spoil, sheets)
		if n, _ := press.Sheets(less, sheets); n > most {
			t.Errorf("Sheets for %d is %d of %v, and %d of %v", sheets, most, spoil, n, less)
		}
		narrowJobs(t, &s)
	}
}

// narrowJobs checks some jobs of which more becomes known.
func narrowJobs(t *testing.T, s *seeds) {
	l := s.jobs(1+s.upTo(7), 6)
	order := s.order(len(l))
	m := slices.Clone(l)
	for i := range m {
		m[i].Print, m[i].Lay = s.narrowed(l[i].Print), s.narrowed(l[i].Lay)
	}
	ends, _ := press.Run(l, order)
	narrow, _ := press.Run(m, order)
	for job := range ends {
		within(t, narrow[job], ends[job])
	}
	surely, can, _ := press.Late(l, order)
	a, b, _ := press.Late(m, order)
	if surely&^a != 0 || a&^b != 0 || b&^can != 0 {
		t.Errorf("%v, %v: Late = %b, %b; of %v: %b, %b", l, order, surely, can, m, a, b)
	}
	_, hour, _ := press.Best(l)
	if _, n, _ := press.Best(m); n > hour {
		t.Errorf("%v: Best is done at %d; %v: at %d", l, hour, m, n)
	}
}

// P5.9: with one job more nothing is done earlier, wherever it comes in the order.
func TestOneJobMore(t *testing.T) {
	var s seeds
	later := 0
	for range 400 {
		many := 1 + s.upTo(6)
		more := s.jobs(many+1, 6)
		l, fewer := more[:many], s.order(many)
		order := slices.Insert(slices.Clone(fewer), s.upTo(many+1), many)
		ends, _ := press.Run(l, fewer)
		now, _ := press.Run(more, order)
		for job := range l {
			if now[job].Lo < ends[job].Lo || now[job].Hi < ends[job].Hi {
				t.Errorf("%v, %v: Run = %v; with one job less %v", more, order, now, ends)
			}
			if now[job] != ends[job] {
				later++
			}
		}
		surely, can, _ := press.Late(l, fewer)
		a, b, _ := press.Late(more, order)
		_, done, _ := press.Why(l, fewer)
		_, hour, _ := press.Why(more, order)
		_, best, _ := press.Best(l)
		_, n, _ := press.Best(more)
		if surely&^a != 0 || can&^b != 0 || hour < done || n < best {
			t.Errorf("%v, %v: Late = %b, %b, done at %d, at best at %d; with one job less %b, %b, %d, %d", more, order, a, b, hour, n, surely, can, done, best)
		}
	}
	if later < 200 {
		t.Errorf("only %d jobs end later", later)
	}
}

// P5.9, P13: other numbers of colours and of jobs.
func TestOtherNumbers(t *testing.T) {
	var s seeds
	for range 200 {
		colours := s.shifts(1+s.upTo(8), 5)
		side, up, _ := press.Fringe(colours)
		var mixed []api.Shift
		for _, i := range s.order(len(colours)) {
			mixed = append(mixed, colours[i])
		}
		if x, y, _ := press.Fringe(mixed); x != side || y != up {
			t.Errorf("%v: Fringe = %v, %v; %v: %v, %v", colours, side, up, mixed, x, y)
		}
		many := 1 + s.upTo(7)
		l, order, number := s.jobs(many, 6), s.order(many), s.order(many)
		m := make([]api.Job, many)
		for job, n := range number {
			m[n] = l[job]
		}
		numbered(t, l, m, order, number)
	}
}

// numbered checks that jobs, of which each has another number in m, are done alike.
func numbered(t *testing.T, l, m []api.Job, order, number []int) {
	var other []int
	for _, job := range order {
		other = append(other, number[job])
	}
	ends, _ := press.Run(l, order)
	now, _ := press.Run(m, other)
	surely, can, _ := press.Late(l, order)
	a, b, _ := press.Late(m, other)
	for job, n := range number {
		if ends[job] != now[n] || surely>>job&1 != a>>n&1 || can>>job&1 != b>>n&1 {
			t.Errorf("%v, %v: Run = %v, Late = %b, %b; %v, %v: %v, %b, %b", l, order, ends, surely, can, m, other, now, a, b)
		}
	}
	why, hour, _ := press.Why(l, order)
	if n, h, _ := press.Why(m, other); n != number[why] || h != hour {
		t.Errorf("%v, %v: Why = %d, %d; %v, %v: %d, %d", l, order, why, hour, m, other, n, h)
	}
	_, best, _ := press.Best(l)
	if _, n, _ := press.Best(m); n != best {
		t.Errorf("%v: Best is done at %d; %v: at %d", l, best, m, n)
	}
}

// P5.8, R3, R4: arguments stay as they are, results are new memory, and nothing is kept.
func TestMemory(t *testing.T) {
	var s seeds
	for range 20 {
		l, order, colours := s.jobs(4, 6), s.order(4), s.shifts(4, 3)
		was, stood, lay := slices.Clone(l), slices.Clone(order), slices.Clone(colours)
		ends, _ := press.Run(l, order)
		best, hour, _ := press.Best(l)
		kept, first := slices.Clone(ends), slices.Clone(best)
		for range 2 {
			press.Fringe(colours)
			press.Late(l, order)
			press.Why(l, order)
			again, _ := press.Run(l, order)
			other, n, _ := press.Best(l)
			if !slices.Equal(again, kept) || !slices.Equal(other, first) || n != hour {
				t.Errorf("%v: Run = %v, Best = %v, %d, but before %v, %v, %d", l, again, other, n, kept, first, hour)
			}
			clear(again)
			for i := range other {
				other[i] = -5
			}
			if !slices.Equal(ends, kept) || !slices.Equal(best, first) {
				t.Errorf("%v: Run = %v, Best = %v, but they are now %v, %v", l, kept, first, ends, best)
			}
		}
		clear(ends)
		clear(best)
		if !slices.Equal(l, was) || !slices.Equal(order, stood) || !slices.Equal(colours, lay) {
			t.Errorf("%v was %v, %v was %v, and %v was %v", l, was, order, stood, colours, lay)
		}
	}
}

// anything returns some number, often one that is at a bound.
func (s *seeds) anything() int {
	l := []int{0, 0, 0, 0, 1, 1, 2, 3, 5, 6, 7, -1, -999, -1000, -1001, 899, 900, 901, 1000, 1001, 50000, 50001, 1 << 20, 1<<20 + 1, math.MaxInt, math.MinInt, 1 << 32}
	return l[s.upTo(len(l))]
}

func (s *seeds) anySpan() api.Span { return span(s.anything(), s.anything()) }

// isIn returns whether a span is valid and within lo to hi, as the chapter says it.
func isIn(lo, hi int, s api.Span) bool { return s.Lo <= s.Hi && s.Lo >= lo && s.Hi <= hi }

// P1, R1, R2: any colours and sheets.
func TestAnyColoursAndSheets(t *testing.T) {
	var s seeds
	var fringes, goods [3]int
	for range 6000 {
		l := s.shifts(s.upTo(10), 3)
		want := api.OK
		if len(l) > 0 && s.upTo(3) == 0 {
			l[s.upTo(len(l))] = api.Shift{X: s.anySpan(), Y: s.anySpan()}
		}
		if len(l) < 1 || len(l) > 8 || slices.ContainsFunc(l, func(s api.Shift) bool { return !isIn(-1000, 1000, s.X) || !isIn(-1000, 1000, s.Y) }) {
			want = api.ErrArg
		}
		fringes[want]++
		if side, up, e := press.Fringe(l); e != want || e != api.OK && (side != api.Span{} || up != api.Span{}) {
			t.Fatalf("%v: Fringe = %v, %v, error %d, not %d", l, side, up, e, want)
		}
		spoil, n := s.anySpan(), s.anything()
		if s.upTo(3) == 0 {
			spoil = s.span(0, 900, 900)
		}
		sheets, need := api.OK, api.OK
		if n < 0 || n > 1<<20 {
			sheets = api.ErrRange
		}
		if n < 0 || n > 50000 {
			need = api.ErrRange
		}
		if !isIn(0, 900, spoil) {
			sheets, need = api.ErrArg, api.ErrArg
		}
		goods[sheets]++
		if good, e := press.Good(spoil, n); e != sheets || e != api.OK && good != (api.Span{}) {
			t.Fatalf("%v: Good of %d = %v, error %d, not %d", spoil, n, good, e, sheets)
		}
		if many, e := press.Sheets(spoil, n); e != need || e != api.OK && many != 0 {
			t.Fatalf("%v: Sheets for %d = %d, error %d, not %d", spoil, n, many, e, need)
		}
	}
	if slices.Min(fringes[:2]) < 500 || slices.Min(goods[:]) < 300 {
		t.Errorf("errors of colours: %v, of sheets: %v", fringes, goods)
	}
}

// anyJobs returns jobs and an order that may have something that is not valid.
func (s *seeds) anyJobs() ([]api.Job, []int) {
	l := s.jobs(s.upTo(9), 4)
	if len(l) > 0 && s.upTo(3) == 0 {
		j := &l[s.upTo(len(l))]
		switch s.upTo(3) {
		case 0:
			j.Print = s.anySpan()
		case 1:
			j.Lay = s.anySpan()
		case 2:
			j.Due = s.anything()
		}
	}
	order := s.order(len(l))
	if s.upTo(3) == 0 {
		order = append(order, s.anything())
		i := s.upTo(len(order))
		order = slices.Delete(order, i, i+s.upTo(2))
	}
	return l, order
}

// wanted returns the error that comes of jobs, and the one that comes of an order, as the chapter says it.
func wanted(l []api.Job, order []int) (ofJobs, ofOrder api.Errno) {
	if len(l) > 7 || slices.ContainsFunc(l, func(j api.Job) bool {
		return !isIn(0, 1000, j.Print) || !isIn(0, 1000, j.Lay) || j.Due < 0 || j.Due > 1<<20
	}) {
		return api.ErrArg, api.ErrArg
	}
	if sorted := slices.Sorted(slices.Values(order)); !slices.Equal(sorted, inTurn(len(l))) {
		return api.OK, api.ErrRange
	}
	return api.OK, api.OK
}

// P1, R1, R2: any jobs and orders.
func TestAnyJobs(t *testing.T) {
	var s seeds
	var errors [3]int
	for range 3000 {
		l, order := s.anyJobs()
		ofJobs, ofOrder := wanted(l, order)
		errors[ofOrder]++
		if best, hour, e := press.Best(l); e != ofJobs || e != api.OK && len(best)+hour != 0 {
			t.Fatalf("%v: Best = %v, %d, error %d, not %d", l, best, hour, e, ofJobs)
		}
		if ofOrder != api.OK {
			checkOrder(t, l, order, ofOrder)
			continue
		}
		if ends, e := press.Run(l, order); len(ends) != len(l) || e != api.OK {
			t.Fatalf("%v, %v: Run = %v, error %d", l, order, ends, e)
		}
		if surely, can, e := press.Late(l, order); surely&^can != 0 || e != api.OK {
			t.Fatalf("%v, %v: Late = %b, %b, error %d", l, order, surely, can, e)
		}
		if _, _, e := press.Why(l, order); (e == api.OK) != (len(l) > 0) {
			t.Fatalf("%v, %v: Why has the error %d", l, order, e)
		}
	}
	if slices.Min(errors[:]) < 300 {
		t.Errorf("valid, with jobs that are none, with orders that are none: %v", errors)
	}
}
