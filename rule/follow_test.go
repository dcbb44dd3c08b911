package rule_test

import (
	"iter"
	"math"
	"slices"
	"testing"

	"jigworks/api"
	"jigworks/rule"
)

// sizes yields how many blades and stints there are, as long as all plans can be gone through.
func sizes() iter.Seq2[int, int] {
	return func(yield func(blades, many int) bool) {
		for blades := 1; blades <= api.MaxBlades; blades++ {
			for many := range api.MaxStints + 1 {
				if blades*(many-1) <= 10 && !yield(blades, many) {
					return
				}
			}
		}
	}
}

// some yields dies and stints of all such sizes.
func some(rounds int) iter.Seq2[api.Die, []api.Stint] {
	return func(yield func(api.Die, []api.Stint) bool) {
		var s seeds
		for range rounds {
			for blades, many := range sizes() {
				if !yield(s.some(blades, many)) {
					return
				}
			}
		}
	}
}

// P4.1, P4.7, P3: all truths, and both ends of them.
func TestOffInTruth(t *testing.T) {
	for d := range some(20) {
		for i, b := range d.Blades {
			for _, strokes := range []int{0, 1, 2, 5, 40, 6999, 7000} {
				least, greatest := math.MaxInt, 0
				for fresh, wear := range truths(b) {
					least = min(least, fresh+strokes*wear)
					greatest = max(greatest, fresh+strokes*wear)
				}
				if s, e := rule.Off(d, i, strokes); s != span(least, greatest) || e != api.OK {
					t.Errorf("%v: Off of %d after %d = %v, error %d, not %d to %d", d, i, strokes, s, e, least, greatest)
				}
			}
		}
	}
}

// lastsTruly returns how long a blade is truly within a bound, thousand by thousand.
func lastsTruly(fresh, wear, bound int) int {
	n := 0
	for n < api.MaxStints*api.MaxRun && fresh+(n+1)*wear <= bound {
		n++
	}
	return n
}

// P4.2, P4.7, P3: all truths, and what Off says about the ends.
func TestLastsInTruth(t *testing.T) {
	lasting, none := 0, 0
	for d := range some(3) {
		for i, b := range d.Blades {
			for bound := range 12 {
				s, e := rule.Lasts(d, i, bound)
				if b.Fresh.Hi > bound {
					none++
					if s != (api.Span{}) || e != api.ErrNone {
						t.Errorf("%v: Lasts of %d for %d = %v, error %d", d, i, bound, s, e)
					}
					continue
				}
				lasting++
				least, greatest := math.MaxInt, 0
				for fresh, wear := range truths(b) {
					n := lastsTruly(fresh, wear, bound)
					least, greatest = min(least, n), max(greatest, n)
				}
				if s != span(least, greatest) || e != api.OK {
					t.Errorf("%v: Lasts of %d for %d = %v, error %d, not %d to %d", d, i, bound, s, e, least, greatest)
				}
				allowed(t, d, i, bound, s)
			}
		}
	}
	if lasting < 500 || none < 100 {
		t.Errorf("%d blades last, and %d do not", lasting, none)
	}
}

// allowed checks that Off allows what Lasts says of a bound, and no more.
func allowed(t *testing.T, d api.Die, blade, bound int, s api.Span) {
	at, _ := rule.Off(d, blade, s.Lo)
	later, _ := rule.Off(d, blade, s.Hi)
	if at.Hi > bound || later.Lo > bound {
		t.Errorf("%v: Lasts of %d for %d = %v, but it is off %v and %v", d, blade, bound, s, at, later)
	}
	if at, e := rule.Off(d, blade, s.Lo+1); e == api.OK && at.Hi <= bound {
		t.Errorf("%v: Lasts of %d for %d = %v, but after more it is off %v", d, blade, bound, s, at)
	}
	if at, e := rule.Off(d, blade, s.Hi+1); e == api.OK && at.Lo <= bound {
		t.Errorf("%v: Lasts of %d for %d = %v, but after more it is off %v", d, blade, bound, s, at)
	}
}

// P4.3, P4.7: plans in all truths, at all strokes.
func TestFollowInTruth(t *testing.T) {
	var s seeds
	var refused, good int
	for d, l := range some(30) {
		for range 12 {
			plan := s.plan(d, l)
			cost, stint, blade, e := rule.Follow(d, l, plan)
			n, i, b, f := slowFollow(d, l, plan)
			if cost != n || stint != i || blade != b || e != f {
				t.Fatalf("%v, %v: Follow of %v = %d, %d, %d, error %d, not %d, %d, %d, error %d", d, l, plan, cost, stint, blade, e, n, i, b, f)
			}
			if e == api.OK {
				good++
			} else if stint > 0 || blade > 0 {
				refused++
			}
		}
	}
	if refused < 1000 || good < 1000 {
		t.Errorf("%d plans are refused, and %d are good", refused, good)
	}
}

// P4.4, P4.5, P4.7, P5: no good plan costs less than the best one, or stops less often than the proof says.
func TestAllPlans(t *testing.T) {
	var none, tied, stopped [8]int
	for d, l := range some(60) {
		good := goodPlans(d, l)
		plan, cost, e := rule.Plan(d, l)
		best, n, f := slowPlan(d, l, good)
		if !slices.Equal(plan, best) || cost != n || e != f {
			t.Fatalf("%v, %v: Plan = %v, %d, error %d, not %v, %d, error %d", d, l, plan, cost, e, best, n, f)
		}
		if best, n, f := planByBlades(d, l); !slices.Equal(plan, best) || cost != n || e != f {
			t.Fatalf("%v, %v: Plan = %v, %d, error %d, by blades %v, %d, error %d", d, l, plan, cost, e, best, n, f)
		}
		rows, blades, g := rule.Proof(d, l)
		if g != e || e != api.OK && len(rows)+len(blades) > 0 {
			t.Fatalf("%v, %v: Proof = %v, %v, error %d", d, l, rows, blades, g)
		}
		if e != api.OK {
			none[len(l)]++
			continue
		}
		stopped[len(rows)]++
		if many := costing(d, l, good, cost); many > 1 {
			tied[len(l)]++
		}
		proven(t, d, l, rows, blades)
		if fewest := slices.MinFunc(good, func(a, b []int) int { return stops(a) - stops(b) }); stops(fewest) != len(rows) {
			t.Errorf("%v, %v: %v stops %d times, but the proof has the rows %v", d, l, fewest, stops(fewest), rows)
		}
	}
	if slices.Min(none[1:]) < 5 || slices.Min(tied[2:]) < 5 || slices.Min(stopped[:5]) < 5 {
		t.Errorf("no plan, by stints: %v; several that cost the same: %v; by rows: %v", none, tied, stopped)
	}
}

// costing returns how many good plans cost so much.
func costing(d api.Die, l []api.Stint, good [][]int, cost int) int {
	many := 0
	for _, plan := range good {
		if n, _, _, _ := rule.Follow(d, l, plan); n == cost {
			many++
		}
	}
	return many
}

// proven checks the rows of a proof, and that a plan that stops before the end of each, and bends all blades, is good.
func proven(t *testing.T, d api.Die, l []api.Stint, rows []api.Span, blades []int) {
	if want, which := slowRows(d, l); !slices.Equal(rows, want) || !slices.Equal(blades, which) {
		t.Fatalf("%v, %v: Proof = %v, %v, not %v, %v", d, l, rows, blades, want, which)
	}
	late := make([]int, max(0, len(l)-1))
	for i, r := range rows {
		if r.Hi <= r.Lo || i == 0 && r.Lo != 0 || i > 0 && r.Lo != rows[i-1].Hi {
			t.Fatalf("%v, %v: the rows %v", d, l, rows)
		}
		late[r.Hi-1] = 1<<len(d.Blades) - 1
	}
	if _, _, _, e := rule.Follow(d, l, late); e != api.OK || stops(late) != len(rows) {
		t.Errorf("%v, %v: the rows %v, but the error %d of %v", d, l, rows, e, late)
	}
}

// P4.4, P4.5: dies and stints of all sizes, also where there are too many plans to go through.
func TestPlansOfAllSizes(t *testing.T) {
	var s seeds
	found := 0
	for range 10 {
		for blades := 1; blades <= api.MaxBlades; blades++ {
			for many := range api.MaxStints + 1 {
				d, l := s.some(blades, many)
				d.Bound += 5
				plan, cost, e := rule.Plan(d, l)
				best, n, f := planByBlades(d, l)
				if !slices.Equal(plan, best) || cost != n || e != f {
					t.Fatalf("%v, %v: Plan = %v, %d, error %d, not %v, %d, error %d", d, l, plan, cost, e, best, n, f)
				}
				rows, which, g := rule.Proof(d, l)
				if g != e {
					t.Fatalf("%v, %v: Proof has the error %d, Plan %d", d, l, g, e)
				}
				if e == api.OK {
					proven(t, d, l, rows, which)
				}
				if e == api.OK && cost > 0 {
					found++
				}
			}
		}
	}
	if found < 100 {
		t.Errorf("only %d plans cost something", found)
	}
}

// The strokes are such that no two ways to bend leave the same behind: nothing is known twice.
func TestMostToFind(t *testing.T) {
	l := stints(1, 0, 2, 0, 4, 0, 8, 0, 16, 0, 32, 0, 64, 0)
	for _, bound := range []int{64, 65, 70, 96, 100, 112, 126, 127} {
		d := die(bound, 3, 2, blade(0, 0, 1, 1), blade(0, 1, 0, 1), blade(1, 2, 1, 1), blade(0, 0, 0, 1), blade(0, 5, 0, 1))
		plan, cost, e := rule.Plan(d, l)
		best, n, f := planByBlades(d, l)
		if !slices.Equal(plan, best) || cost != n || e != f {
			t.Errorf("bound %d: Plan = %v, %d, error %d, not %v, %d, error %d", bound, plan, cost, e, best, n, f)
		}
	}
}

// narrowed returns a span within another one.
func (s *seeds) narrowed(x api.Span) api.Span {
	lo := x.Lo + s.upTo(x.Hi-x.Lo+1)
	return span(lo, lo+s.upTo(x.Hi-lo+1))
}

// easier returns a die and stints that ask for less: one thing is narrower, greater, or fewer.
func (s *seeds) easier(d api.Die, l []api.Stint) (api.Die, []api.Stint) {
	d, l = copyOf(d), slices.Clone(l)
	b, i := s.upTo(len(d.Blades)), s.upTo(len(l))
	switch s.upTo(5) {
	case 0:
		d.Blades[b].Fresh = s.narrowed(d.Blades[b].Fresh)
	case 1:
		d.Blades[b].Wears = s.narrowed(d.Blades[b].Wears)
	case 2:
		d.Bound += s.upTo(4)
	case 3:
		l[i].More += s.upTo(4)
	case 4:
		l[i].Strokes -= s.upTo(l[i].Strokes)
	}
	return d, l
}

// without returns a die without one of its blades, and a plan for it.
func without(d api.Die, plan []int, blade int) (api.Die, []int) {
	d = copyOf(d)
	d.Blades = slices.Delete(d.Blades, blade, blade+1)
	var sets []int
	for _, set := range plan {
		sets = append(sets, set&(1<<blade-1)|set>>(blade+1)<<blade)
	}
	return d, sets
}

// P4.7, P3: where less is asked for, what was good still is, and no more stops are needed.
func TestWhereLessIsAskedFor(t *testing.T) {
	var s seeds
	kept, fewer := 0, 0
	check := func(d api.Die, l []api.Stint, plan []int, rows int, cost int) {
		n, _, _, e := rule.Follow(d, l, plan)
		if e != api.OK {
			t.Errorf("%v, %v: %v was good where more was asked for, but has the error %d", d, l, plan, e)
		}
		less, _, e := rule.Proof(d, l)
		if e != api.OK || len(less) > rows {
			t.Errorf("%v, %v: Proof = %v, error %d, but %d rows where more was asked for", d, l, less, e, rows)
		}
		if _, best, e := rule.Plan(d, l); best > cost || best > n || e != api.OK {
			t.Errorf("%v, %v: Plan costs %d, error %d, but %d where more was asked for", d, l, best, e, cost)
		}
		kept++
		if len(less) < rows {
			fewer++
		}
	}
	for d, l := range some(30) {
		rows, _, e := rule.Proof(d, l)
		if e != api.OK || len(l) == 0 {
			continue
		}
		_, cost, _ := rule.Plan(d, l)
		for range 5 {
			plan := s.plan(d, l)
			if _, _, _, e := rule.Follow(d, l, plan); e != api.OK {
				plan = slices.Repeat([]int{1<<len(d.Blades) - 1}, len(l)-1)
			}
			x, m := s.easier(d, l)
			check(x, m, plan, len(rows), cost)
			check(d, l[:len(l)-1], plan[:max(0, len(plan)-1)], len(rows), cost)
			if len(d.Blades) > 1 {
				x, sets := without(d, plan, s.upTo(len(d.Blades)))
				check(x, l, sets, len(rows), cost)
			}
		}
	}
	if kept < 3000 || fewer < 200 {
		t.Errorf("%d were kept, %d with fewer stops", kept, fewer)
	}
}

// within checks that a span is within another one.
func within(t *testing.T, s, all api.Span) {
	if s.Lo < all.Lo || s.Hi > all.Hi {
		t.Errorf("%v is not within %v", s, all)
	}
}

// P3: what is known better gives spans within those before.
func TestNarrowerSpans(t *testing.T) {
	var s seeds
	for d := range some(20) {
		for i, b := range d.Blades {
			x := copyOf(d)
			x.Blades[i] = api.Blade{Fresh: s.narrowed(b.Fresh), Wears: s.narrowed(b.Wears)}
			strokes, bound := s.upTo(100), s.upTo(30)
			off, _ := rule.Off(x, i, strokes)
			all, _ := rule.Off(d, i, strokes)
			within(t, off, all)
			if all, e := rule.Lasts(d, i, bound); e == api.OK {
				lasts, f := rule.Lasts(x, i, bound)
				within(t, lasts, all)
				if f != api.OK {
					t.Errorf("%v: Lasts of %d for %d has the error %d", x, i, bound, f)
				}
			}
		}
	}
}

// P13: other numbers of blades.
func TestOtherNumbers(t *testing.T) {
	for d, l := range some(15) {
		other := copyOf(d)
		slices.Reverse(other.Blades)
		last := len(d.Blades) - 1
		plan, cost, e := rule.Plan(d, l)
		_, n, f := rule.Plan(other, l)
		rows, _, _ := rule.Proof(d, l)
		turned, _, _ := rule.Proof(other, l)
		if n != cost || f != e || !slices.Equal(rows, turned) {
			t.Errorf("%v, %v: Plan costs %d, error %d, rows %v, with other numbers %d, error %d, rows %v", d, l, cost, e, rows, n, f, turned)
		}
		var sets []int
		for _, set := range plan {
			r := 0
			for b := range d.Blades {
				r |= set >> b & 1 << (last - b)
			}
			sets = append(sets, r)
		}
		if n, _, _, f := rule.Follow(other, l, sets); e == api.OK && (n != cost || f != api.OK) {
			t.Errorf("%v, %v: %v costs %d, but %v %d, error %d", d, l, plan, cost, sets, n, f)
		}
		for b := range d.Blades {
			s, _ := rule.Off(d, b, 9)
			r, _ := rule.Off(other, last-b, 9)
			if s != r {
				t.Errorf("%v: %d is off %v, with other numbers %v", d, b, s, r)
			}
		}
	}
}

// P4.6, R3, R4: arguments stay as they are, results are new memory, and nothing is kept.
func TestMemory(t *testing.T) {
	for d, l := range some(10) {
		was, stood := copyOf(d), slices.Clone(l)
		sets := slices.Repeat([]int{1}, max(0, len(l)-1))
		for range 2 {
			plan, cost, e := rule.Plan(d, l)
			rows, blades, f := rule.Proof(d, l)
			rule.Follow(d, l, sets)
			rule.Off(d, 0, 5)
			rule.Lasts(d, 0, 5)
			if best, n, g := planByBlades(d, l); !slices.Equal(plan, best) || cost != n || e != g || f != g {
				t.Errorf("%v, %v: Plan = %v, %d, error %d, not %v, %d, error %d", d, l, plan, cost, e, best, n, g)
			}
			if e == api.OK {
				proven(t, d, l, rows, blades)
			}
			for i := range plan {
				plan[i] = -5
			}
			clear(rows)
			for i := range blades {
				blades[i] = -5
			}
			if !same(d, was) || !slices.Equal(l, stood) || slices.ContainsFunc(sets, func(n int) bool { return n != 1 }) {
				t.Errorf("%v was %v, and %v was %v", d, was, l, stood)
			}
		}
	}
}

// anything returns some number, often one that is at a bound.
func (s *seeds) anything() int {
	l := []int{0, 0, 0, 1, 1, 2, 3, 5, 7, 31, -1, 1000, 1001, 7000, 7001, 10000, 10001, 100000, 100001, 200000, 200001, math.MaxInt, math.MinInt, 1 << 32}
	return l[s.upTo(len(l))]
}

// anyDie returns a die and stints that may have something that is not valid.
func (s *seeds) anyDie() (api.Die, []api.Stint) {
	d, l := s.some(1+s.upTo(3), s.upTo(5))
	for range s.upTo(3) {
		switch s.upTo(8) {
		case 0:
			d.Bound = s.anything()
		case 1:
			d.Stop = s.anything()
		case 2:
			d.Bend = s.anything()
		case 3:
			d.Blades = slices.Repeat(d.Blades, s.upTo(4))
		case 4:
			d.Blades = append(d.Blades, api.Blade{Fresh: span(s.anything(), s.anything()), Wears: span(0, s.anything())})
		case 5:
			d.Blades = append(d.Blades, api.Blade{Fresh: span(0, 1), Wears: span(s.anything(), s.anything())})
		case 6:
			l = append(l, api.Stint{Strokes: s.anything(), More: s.anything()})
		case 7:
			l = slices.Repeat(l, s.upTo(3))
		}
	}
	return d, l
}

// inside returns whether all numbers are from 0 to a greatest one.
func inside(greatest int, l ...int) bool { return slices.Min(l) >= 0 && slices.Max(l) <= greatest }

// wanted returns the error that comes of a die and of stints, as the chapter says it.
func wanted(d api.Die, l []api.Stint) api.Errno {
	if !inside(100000, d.Bound) || !inside(10000, d.Stop, d.Bend) || len(d.Blades) < 1 || len(d.Blades) > 5 {
		return api.ErrArg
	}
	for _, b := range d.Blades {
		if !inside(10000, b.Fresh.Lo, b.Fresh.Hi, b.Wears.Lo, b.Wears.Hi) || b.Fresh.Lo > b.Fresh.Hi || b.Wears.Lo > b.Wears.Hi {
			return api.ErrArg
		}
	}
	if len(l) > 7 {
		return api.ErrRange
	}
	for _, s := range l {
		if s.Strokes == 0 || !inside(1000, s.Strokes) || !inside(100000, s.More) {
			return api.ErrRange
		}
	}
	return api.OK
}

// P1, R1, R2: any arguments.
func TestAnyArguments(t *testing.T) {
	var s seeds
	var errors [3]int
	for range 8000 {
		d, l := s.anyDie()
		plan := make([]int, s.upTo(6))
		for i := range plan {
			plan[i] = s.anything()
		}
		e := wanted(d, l)
		errors[e]++
		anyBlade(t, d, s.anything(), s.anything())
		anyPlan(t, d, l, plan, e)
	}
	if slices.Min(errors[:]) < 500 {
		t.Errorf("valid, with no die, with no stints: %v", errors)
	}
}

// anyBlade checks the errors of Off and Lasts of some numbers.
func anyBlade(t *testing.T, d api.Die, blade, n int) {
	t.Helper()
	e := wanted(d, nil)
	f := e
	if e == api.OK && (!inside(len(d.Blades)-1, blade) || !inside(7000, n)) {
		e = api.ErrRange
	}
	if f == api.OK && (!inside(len(d.Blades)-1, blade) || !inside(200000, n)) {
		f = api.ErrRange
	}
	if f == api.OK && d.Blades[blade].Fresh.Hi > n {
		f = api.ErrNone
	}
	if s, g := rule.Off(d, blade, n); g != e || g != api.OK && s != (api.Span{}) {
		t.Fatalf("%v: Off of %d after %d = %v, error %d, not %d", d, blade, n, s, g, e)
	}
	if s, g := rule.Lasts(d, blade, n); g != f || g != api.OK && s != (api.Span{}) {
		t.Fatalf("%v: Lasts of %d for %d = %v, error %d, not %d", d, blade, n, s, g, f)
	}
}

// anyPlan checks the errors of the other functions, of which e comes of the die and of the stints.
func anyPlan(t *testing.T, d api.Die, l []api.Stint, plan []int, e api.Errno) {
	t.Helper()
	best, price, f := rule.Plan(d, l)
	rows, blades, g := rule.Proof(d, l)
	if f != g || f != e && (e != api.OK || f != api.ErrNone) || f != api.OK && len(best)+price+len(rows)+len(blades) > 0 {
		t.Fatalf("%v, %v: Plan = %v, %d, error %d, and Proof = %v, %v, error %d, not %d", d, l, best, price, f, rows, blades, g, e)
	}
	if e == api.OK && (len(plan) != max(0, len(l)-1) || len(plan) > 0 && !inside(1<<len(d.Blades)-1, plan...)) {
		e = api.ErrRange
	}
	cost, stint, blade, g := rule.Follow(d, l, plan)
	if g != e && (e != api.OK || g != api.ErrRefuse) || g != api.OK && cost != 0 || e != api.OK && stint+blade != 0 || g == api.OK && f != api.OK {
		t.Fatalf("%v, %v: Follow of %v = %d, %d, %d, error %d, not %d", d, l, plan, cost, stint, blade, g, e)
	}
}
