package rule_test

import (
	"iter"
	"math"
	"math/bits"
	"slices"

	"jigworks/api"
)

func span(lo, hi int) api.Span { return api.Span{Lo: lo, Hi: hi} }

// blade returns a blade, from both ends of its Fresh and of its Wears.
func blade(a, b, c, d int) api.Blade { return api.Blade{Fresh: span(a, b), Wears: span(c, d)} }

func die(bound, stop, bend int, l ...api.Blade) api.Die {
	return api.Die{Blades: l, Bound: bound, Stop: stop, Bend: bend}
}

// stints returns stints, each from its Strokes and its More.
func stints(l ...int) (out []api.Stint) {
	for i := 0; i < len(l); i += 2 {
		out = append(out, api.Stint{Strokes: l[i], More: l[i+1]})
	}
	return out
}

// alike returns n stints of one thousand strokes each.
func alike(n int) []api.Stint { return slices.Repeat(stints(1, 0), n) }

// The die, and the stints, of the chapter's examples.
func exampleDie() api.Die { return die(40, 10, 3, blade(0, 5, 2, 3), blade(2, 4, 0, 1)) }

func exampleStints() []api.Stint { return stints(8, 0, 6, 0, 9, 5, 10, 0) }

func fiveBlades() []api.Blade {
	return slices.Repeat([]api.Blade{blade(0, 1, 0, 1)}, api.MaxBlades)
}

func copyOf(d api.Die) api.Die {
	d.Blades = slices.Clone(d.Blades)
	return d
}

func same(a, b api.Die) bool {
	return slices.Equal(a.Blades, b.Blades) && a.Bound == b.Bound && a.Stop == b.Stop && a.Bend == b.Bend
}

// badDies returns dies that are not valid.
func badDies() []api.Die {
	var l []api.Die
	change := func(f func(d *api.Die)) {
		for _, d := range []api.Die{exampleDie(), die(5, 0, 0, fiveBlades()...), die(0, 0, 0, blade(0, 0, 0, 0))} {
			f(&d)
			l = append(l, d)
		}
	}
	change(func(d *api.Die) { d.Blades = nil })
	change(func(d *api.Die) { d.Blades = []api.Blade{} })
	change(func(d *api.Die) { d.Blades = append(fiveBlades(), blade(0, 0, 0, 0)) })
	change(func(d *api.Die) { d.Blades = slices.Repeat(fiveBlades(), 20) })
	for _, s := range []api.Span{
		span(-1, 5), span(5, 4), span(1, 0), span(0, -1), span(0, api.MaxAway+1), span(api.MaxAway+1, api.MaxAway+1), span(-2, -1),
		span(math.MinInt, 0), span(0, math.MaxInt), span(math.MaxInt, math.MinInt), span(math.MaxInt, math.MaxInt),
	} {
		change(func(d *api.Die) { d.Blades[0].Fresh = s })
		change(func(d *api.Die) { d.Blades[0].Wears = s })
		change(func(d *api.Die) { d.Blades[len(d.Blades)-1].Fresh = s })
		change(func(d *api.Die) { d.Blades[len(d.Blades)-1].Wears = s })
	}
	for _, n := range []int{-1, math.MinInt, math.MaxInt} {
		change(func(d *api.Die) { d.Bound = n })
		change(func(d *api.Die) { d.Stop = n })
		change(func(d *api.Die) { d.Bend = n })
	}
	change(func(d *api.Die) { d.Bound = api.MaxBound + 1 })
	change(func(d *api.Die) { d.Stop = api.MaxPrice + 1 })
	change(func(d *api.Die) { d.Bend = api.MaxPrice + 1 })
	return l
}

// badStints returns stints that are not valid.
func badStints() [][]api.Stint {
	l := [][]api.Stint{alike(api.MaxStints + 1), alike(100), append(stints(0, 0), alike(api.MaxStints)...)}
	for _, bad := range [][]api.Stint{
		stints(0, 0), stints(-1, 0), stints(api.MaxRun+1, 0), stints(1, -1), stints(1, api.MaxBound+1),
		stints(math.MinInt, 0), stints(math.MaxInt, 0), stints(1, math.MinInt), stints(1, math.MaxInt),
	} {
		l = append(l, bad, append(alike(6), bad...), append(bad, alike(3)...))
	}
	return l
}

// seeds makes numbers that look like chance, always the same ones.
type seeds uint64

// upTo returns a number from 0 to n - 1.
func (s *seeds) upTo(n int) int {
	*s = *s*6364136223846793005 + 1442695040888963407
	return int(uint64(*s)>>33) % n
}

// span returns a span within 0 to n - 1.
func (s *seeds) span(n int) api.Span {
	lo := s.upTo(n)
	return span(lo, lo+s.upTo(n-lo))
}

// some returns a die with so many blades, and so many stints, such that all that can be is about as frequent.
func (s *seeds) some(blades, many int) (api.Die, []api.Stint) {
	d := die(6+s.upTo(15), s.upTo(4), s.upTo(4))
	for range blades {
		d.Blades = append(d.Blades, api.Blade{Fresh: s.span(5), Wears: s.span(4)})
	}
	if s.upTo(20) == 0 {
		d.Bound = s.upTo(4)
	}
	var l []api.Stint
	for range many {
		l = append(l, api.Stint{Strokes: 1 + s.upTo(4), More: s.upTo(3) * s.upTo(4)})
	}
	return d, l
}

// plan returns some plan for a die and stints, be it good or not.
func (s *seeds) plan(d api.Die, l []api.Stint) []int {
	var plan []int
	for range len(l) - 1 {
		plan = append(plan, s.upTo(1<<len(d.Blades))|s.upTo(2)*s.upTo(1<<len(d.Blades)))
	}
	return plan
}

// truths yields each number that a blade is truly off by when it has just been bent, with each true wear.
func truths(b api.Blade) iter.Seq2[int, int] {
	return func(yield func(fresh, wear int) bool) {
		for fresh := b.Fresh.Lo; fresh <= b.Fresh.Hi; fresh++ {
			for wear := b.Wears.Lo; wear <= b.Wears.Hi; wear++ {
				if !yield(fresh, wear) {
					return
				}
			}
		}
	}
}

// truly returns whether a blade is off by no more than a bound in each truth, and at all strokes of a stint before which it has run so long.
func truly(b api.Blade, ran, strokes, bound int) bool {
	for fresh, wear := range truths(b) {
		for n := range strokes + 1 {
			if fresh+(ran+n)*wear > bound {
				return false
			}
		}
	}
	return true
}

// slowFollow follows a plan stroke by stroke, in all truths.
func slowFollow(d api.Die, l []api.Stint, plan []int) (cost, stint, blade int, e api.Errno) {
	ran := make([]int, len(d.Blades))
	for i, s := range l {
		if i > 0 && plan[i-1] != 0 {
			cost += d.Stop
		}
		for b := range d.Blades {
			if i > 0 && plan[i-1]>>b&1 == 1 {
				cost += d.Bend
				ran[b] = 0
			}
		}
		for b, x := range d.Blades {
			if !truly(x, ran[b], s.Strokes, d.Bound+s.More) {
				return 0, i, b, api.ErrRefuse
			}
			ran[b] += s.Strokes
		}
	}
	return cost, len(l), 0, api.OK
}

// plans yields all plans of a die and stints, in lexicographic order.
func plans(d api.Die, l []api.Stint) iter.Seq[[]int] {
	return func(yield func([]int) bool) {
		digits := max(0, len(l)-1)
		for k := range 1 << (digits * len(d.Blades)) {
			plan := make([]int, digits)
			for i := range plan {
				plan[i] = k >> ((digits - 1 - i) * len(d.Blades)) & (1<<len(d.Blades) - 1)
			}
			if !yield(plan) {
				return
			}
		}
	}
}

func stops(plan []int) int {
	n := 0
	for _, set := range plan {
		if set != 0 {
			n++
		}
	}
	return n
}

// goodPlans returns all good plans, in lexicographic order.
func goodPlans(d api.Die, l []api.Stint) [][]int {
	var good [][]int
	for plan := range plans(d, l) {
		if _, _, _, e := slowFollow(d, l, plan); e == api.OK {
			good = append(good, plan)
		}
	}
	return good
}

// slowPlan goes through good plans for the best one.
func slowPlan(d api.Die, l []api.Stint, good [][]int) (best []int, cost int, e api.Errno) {
	e = api.ErrNone
	for _, plan := range good {
		if n, _, _, _ := slowFollow(d, l, plan); e != api.OK || n < cost {
			best, cost, e = plan, n, api.OK
		}
	}
	return best, cost, e
}

// alone returns the ways in which a single blade can be bent well, as sets of stints: the bit i for the one before the stint i + 1.
func alone(d api.Die, b api.Blade, l []api.Stint) []int {
	var ways []int
ways:
	for way := range 1 << max(0, len(l)-1) {
		ran := 0
		for i, s := range l {
			if i > 0 && way>>(i-1)&1 == 1 {
				ran = 0
			}
			ran += s.Strokes
			if b.Fresh.Hi+ran*b.Wears.Hi > d.Bound+s.More {
				continue ways
			}
		}
		ways = append(ways, way)
	}
	return ways
}

// leastCost returns what the good plan costs that costs least of those that begin with some sets, and whether there is one. For each choice of stops it bends each blade as seldom as it can, whatever the others do.
func leastCost(d api.Die, ways [][]int, many int, first ...int) (least int, ok bool) {
choices:
	for choice := range 1 << max(0, many-1) {
		for i, set := range first {
			if (set != 0) != (choice>>i&1 == 1) {
				continue choices
			}
		}
		cost := d.Stop * bits.OnesCount(uint(choice))
		for b := range d.Blades {
			fewest, can := seldom(ways[b], choice, b, first)
			if !can {
				continue choices
			}
			cost += d.Bend * fewest
		}
		if !ok || cost < least {
			least, ok = cost, true
		}
	}
	return least, ok
}

// seldom returns how often a blade must be bent at least if it can be so at some stops only, and if the first sets are given.
func seldom(ways []int, choice, blade int, first []int) (fewest int, ok bool) {
ways:
	for _, way := range ways {
		for i, set := range first {
			if way>>i&1 != set>>blade&1 {
				continue ways
			}
		}
		if n := bits.OnesCount(uint(way)); way&^choice == 0 && (!ok || n < fewest) {
			fewest, ok = n, true
		}
	}
	return fewest, ok
}

// planByBlades finds the best plan set by set: each is the first one after which a plan can still cost as little.
func planByBlades(d api.Die, l []api.Stint) (plan []int, cost int, e api.Errno) {
	var ways [][]int
	for _, b := range d.Blades {
		ways = append(ways, alone(d, b, l))
	}
	cost, ok := leastCost(d, ways, len(l))
	if !ok {
		return nil, 0, api.ErrNone
	}
	for range len(l) - 1 {
		for set := range 1 << len(d.Blades) {
			if n, ok := leastCost(d, ways, len(l), append(slices.Clone(plan), set)...); ok && n == cost {
				plan = append(plan, set)
				break
			}
		}
	}
	return plan, cost, api.OK
}

// slowRows finds the rows of a proof as the chapter says it, row by row, in all truths, or as far as a plan can be good.
func slowRows(d api.Die, l []api.Stint) (rows []api.Span, blades []int) {
	from := 0
	for from < len(l) {
		to, blade := rowEnd(d, l, from)
		if to == len(l) || to == from {
			break
		}
		rows = append(rows, span(from, to))
		blades = append(blades, blade)
		from = to
	}
	return rows, blades
}

// rowEnd returns the first stint up to which some blade cannot run through from another one on, and the first such blade; the number of stints if there is none.
func rowEnd(d api.Die, l []api.Stint, from int) (to, blade int) {
	ran := 0
	for to := from; to < len(l); to++ {
		for i, b := range d.Blades {
			if !truly(b, ran, l[to].Strokes, d.Bound+l[to].More) {
				return to, i
			}
		}
		ran += l[to].Strokes
	}
	return len(l), 0
}
