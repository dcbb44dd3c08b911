package scale_test

import (
	"math"
	"slices"

	"jigworks/api"
)

func span(lo, hi int) api.Span { return api.Span{Lo: lo, Hi: hi} }

// all is a span that each number is within.
func all() api.Span { return span(math.MinInt, math.MaxInt) }

// kinds returns kinds, each from its Many and both ends of its Weight.
func kinds(l ...int) (out []api.Kind) {
	for i := 0; i < len(l); i += 3 {
		out = append(out, api.Kind{Many: l[i], Weight: span(l[i+1], l[i+2])})
	}
	return out
}

// weigh returns a scale that all boxes pass.
func weigh(err api.Span) api.Test { return api.Test{How: api.TestScale, Err: err, Pass: all()} }

// camera returns a camera that all boxes pass.
func camera(set int, err api.Span) api.Test {
	return api.Test{How: api.TestCamera, Kinds: set, Err: err, Pass: all()}
}

// passing returns a test with another Pass, and another Cost.
func passing(t api.Test, pass api.Span, cost int) api.Test {
	t.Pass, t.Cost = pass, cost
	return t
}

// read returns readings of a test.
func read(t api.Test, got ...int) (l []api.Reading) {
	for _, n := range got {
		l = append(l, api.Reading{Test: t, Got: n})
	}
	return l
}

// readings returns all readings of some lists of them.
func readings(l ...[]api.Reading) []api.Reading { return slices.Concat(l...) }

// The box and the tests C, R and F of the chapter's examples.
func exampleBox() api.Box {
	return api.Box{Kinds: kinds(90, 1000, 1001, 10, 2000, 2000), Bag: span(500, 600), Lost: 1, Extra: 1}
}

func exampleC() api.Test { return passing(camera(3, span(-2, 0)), span(98, 100), 1) }

func exampleR() api.Test { return passing(weigh(span(-1000, 1000)), span(109500, 111690), 2) }

func exampleF() api.Test { return passing(weigh(span(-50, 50)), span(110450, 110740), 10) }

func exampleTests() []api.Test { return []api.Test{exampleC(), exampleR(), exampleF()} }

// boxOf returns a box of kinds that weigh nothing, in no bag.
func boxOf(lost, extra int, many ...int) api.Box {
	b := api.Box{Lost: lost, Extra: extra}
	for _, n := range many {
		b.Kinds = append(b.Kinds, api.Kind{Many: n})
	}
	return b
}

// badSpans returns spans that are not valid, or not within lo to hi.
func badSpans(lo, hi int) []api.Span {
	return []api.Span{
		span(lo-1, lo), span(lo-1, hi), span(lo, hi+1), span(hi, hi+1), span(lo-2, lo-1), span(hi+1, hi+1), span(lo+1, lo), span(hi, hi-1), span(hi, lo),
		span(math.MinInt, lo), span(lo, math.MaxInt), span(math.MinInt, math.MaxInt), span(math.MaxInt, math.MinInt), span(math.MinInt, math.MinInt), span(math.MaxInt, math.MaxInt),
	}
}

// outside returns numbers that are not from lo to hi.
func outside(lo, hi int) []int { return []int{lo - 1, hi + 1, math.MinInt, math.MaxInt, lo - 1<<32} }

// badBoxes returns boxes that are not valid.
func badBoxes() []api.Box {
	l := []api.Box{{}, {Kinds: []api.Kind{}}, {Kinds: make([]api.Kind, api.MaxBoxKinds+1)}, {Kinds: make([]api.Kind, 1000)}}
	add := func(change func(b *api.Box)) {
		b := exampleBox()
		change(&b)
		l = append(l, b)
	}
	for kind := range 2 {
		for _, n := range outside(0, api.MaxOf) {
			add(func(b *api.Box) { b.Kinds[kind].Many = n })
		}
		for _, s := range badSpans(0, api.MaxHeavy) {
			add(func(b *api.Box) { b.Kinds[kind].Weight = s })
		}
	}
	for _, s := range badSpans(0, api.MaxHeavy) {
		add(func(b *api.Box) { b.Bag = s })
	}
	for _, n := range outside(0, api.MaxLost) {
		add(func(b *api.Box) { b.Lost = n })
	}
	for _, n := range outside(0, api.MaxExtra) {
		add(func(b *api.Box) { b.Extra = n })
	}
	return l
}

// badTests returns tests that are not valid for a box of two kinds.
func badTests() (l []api.Test) {
	for _, how := range []int{-1, 2, 3, math.MinInt, math.MaxInt, 1 << 32, 1<<32 + 1} {
		l = append(l, api.Test{How: how})
	}
	for _, set := range []int{-1, 4, 5, 7, 8, math.MinInt, math.MaxInt, 1 << 32, 1<<32 + 1} {
		l = append(l, camera(set, span(0, 0)))
	}
	for _, t := range []api.Test{weigh(span(0, 0)), camera(3, span(0, 0))} {
		for _, s := range badSpans(-api.MaxErr, api.MaxErr) {
			t.Err = s
			l = append(l, t)
		}
		t.Err = span(0, 0)
		for _, s := range []api.Span{span(1, 0), span(-5, -6), span(math.MaxInt, math.MinInt), span(0, math.MinInt), span(math.MaxInt, 0)} {
			l = append(l, passing(t, s, 0))
		}
		for _, n := range outside(0, api.MaxTestCost) {
			l = append(l, passing(t, span(0, 0), n))
		}
	}
	return l
}

// seeds makes numbers that look like chance, always the same ones.
type seeds uint64

// upTo returns a number from 0 to n - 1.
func (s *seeds) upTo(n int) int {
	*s = *s*6364136223846793005 + 1442695040888963407
	return int(uint64(*s)>>33) % n
}

// within returns a number of a span.
func (s *seeds) within(x api.Span) int { return x.Lo + s.upTo(x.Hi-x.Lo+1) }

// span returns a span within lo to hi that is at most as wide as it is said.
func (s *seeds) span(lo, hi, wide int) api.Span {
	from := lo + s.upTo(hi-lo+1)
	return span(from, min(hi, from+s.upTo(wide+1)))
}

// narrowed returns a span within another one.
func (s *seeds) narrowed(x api.Span) api.Span { return s.span(x.Lo, x.Hi, x.Hi-x.Lo) }

// box returns a box of a few light pieces, so that all its truths can be gone through.
func (s *seeds) box() api.Box {
	b := api.Box{Bag: s.span(0, 3, 2), Lost: s.upTo(4), Extra: s.upTo(3)}
	for range 1 + s.upTo(3) {
		b.Kinds = append(b.Kinds, api.Kind{Many: s.upTo(5), Weight: s.span(0, 9, s.upTo(2))})
	}
	return b
}

// middle returns a number that a test can read of the box.
func (s *seeds) middle(b api.Box, t api.Test) int {
	l := slowLists(b)
	return s.within(mostly(slowReads(b, l[s.upTo(len(l))], t)))
}

// mostly returns the span of the numbers in a set.
func mostly(set map[int]bool) api.Span {
	out := span(math.MaxInt, math.MinInt)
	for n := range set {
		out = span(min(out.Lo, n), max(out.Hi, n))
	}
	return out
}

// test returns a test that some lists could pass, and some often could not.
func (s *seeds) test(b api.Box) api.Test {
	t := api.Test{How: s.upTo(2), Err: s.span(-2, 1, s.upTo(4)), Cost: s.upTo(4)}
	t.Kinds = s.upTo(1 << len(b.Kinds))
	if s.upTo(4) == 0 {
		t.Kinds = 1<<len(b.Kinds) - 1
	}
	if t.How == api.TestScale {
		t.Kinds = s.upTo(99) - 50
	}
	n := s.within(mostly(slowReads(b, make([]int, len(b.Kinds)), t)))
	t.Pass = span(n-s.upTo(4), n+s.upTo(4))
	return t
}

func (s *seeds) tests(b api.Box, many int) (l []api.Test) {
	for range many {
		l = append(l, s.test(b))
	}
	return l
}

// readings returns readings, most of which fit some list.
func (s *seeds) readings(b api.Box, many int) (l []api.Reading) {
	for range many {
		t := s.test(b)
		l = append(l, api.Reading{Test: t, Got: s.middle(b, t)})
		if s.upTo(12) == 0 {
			l[len(l)-1].Got += s.upTo(9) - 4
		}
	}
	return l
}

// slowLists returns all lists that a box can have: those of fewer kinds behind each first number.
func slowLists(b api.Box) [][]int {
	if len(b.Kinds) == 0 {
		return [][]int{nil}
	}
	var l [][]int
	for first := -9; first <= 9; first++ {
		less := b
		less.Kinds = b.Kinds[1:]
		if first < 0 {
			less.Lost += first
		} else {
			less.Extra -= first
		}
		if less.Lost < 0 || less.Extra < 0 || b.Kinds[0].Many+first < 0 {
			continue
		}
		for _, rest := range slowLists(less) {
			l = append(l, append([]int{first}, rest...))
		}
	}
	return l
}

// also returns all numbers of a set, each with one of a span added.
func also(set map[int]bool, s api.Span) map[int]bool {
	out := map[int]bool{}
	for n := range set {
		for more := s.Lo; more <= s.Hi; more++ {
			out[n+more] = true
		}
	}
	return out
}

// slowReads returns all numbers that a test reads of a box in some truth, piece by piece.
func slowReads(b api.Box, has []int, t api.Test) map[int]bool {
	set := also(map[int]bool{0: true}, t.Err)
	if t.How == api.TestScale {
		set = also(set, b.Bag)
	}
	for kind, k := range b.Kinds {
		for range k.Many + has[kind] {
			if t.How == api.TestScale {
				set = also(set, k.Weight)
			} else if t.Kinds&(1<<kind) != 0 {
				set = also(set, span(1, 1))
			}
		}
	}
	return set
}

// slowPass returns whether a box with a list passes a test in some truth.
func slowPass(b api.Box, has []int, t api.Test) bool {
	for n := range slowReads(b, has, t) {
		if t.Pass.Lo <= n && n <= t.Pass.Hi {
			return true
		}
	}
	return false
}

// slowFits returns the lists that fit readings: the complete ones, and the others.
func slowFits(b api.Box, l []api.Reading) (complete, others [][]int) {
	for _, has := range slowLists(b) {
		if slices.ContainsFunc(l, func(r api.Reading) bool { return !slowReads(b, has, r.Test)[r.Got] }) {
			continue
		}
		if slices.Min(has) < 0 {
			others = append(others, has)
		} else {
			complete = append(complete, has)
		}
	}
	return complete, others
}

// slowJudge returns what Judge should.
func slowJudge(b api.Box, l []api.Reading) (int, api.Errno) {
	complete, others := slowFits(b, l)
	if len(complete) > 0 && len(others) > 0 {
		return 1, api.OK
	}
	if len(complete) > 0 {
		return 2, api.OK
	}
	if len(others) > 0 {
		return 0, api.OK
	}
	return 0, api.ErrState
}

// slowLeft returns what Left should.
func slowLeft(b api.Box, l []api.Reading) (out []api.Span, e api.Errno) {
	complete, others := slowFits(b, l)
	fit := append(complete, others...)
	if len(fit) == 0 {
		return nil, api.ErrState
	}
	for kind := range b.Kinds {
		set := map[int]bool{}
		for _, has := range fit {
			set[has[kind]] = true
		}
		out = append(out, mostly(set))
	}
	return out, api.OK
}

// slowSlips returns what Slips should.
func slowSlips(b api.Box, tests []api.Test) ([]int, api.Errno) {
	for _, has := range slowLists(b) {
		if slices.Min(has) < 0 && !slices.ContainsFunc(tests, func(t api.Test) bool { return !slowPass(b, has, t) }) {
			return has, api.OK
		}
	}
	return nil, api.ErrNone
}

// chosen returns the tests of a set.
func chosen(tests []api.Test, set int) (l []api.Test) {
	for i, t := range tests {
		if set&(1<<i) != 0 {
			l = append(l, t)
		}
	}
	return l
}

// costOf returns what tests cost.
func costOf(tests []api.Test) (cost int) {
	for _, t := range tests {
		cost += t.Cost
	}
	return cost
}

// slowEnough returns what Enough should, and how many sets cost as much.
func slowEnough(b api.Box, tests []api.Test) (set, cost, many int, e api.Errno) {
	e = api.ErrNone
	for i := range 1 << len(tests) {
		l := chosen(tests, i)
		if _, slips := slowSlips(b, l); slips == api.OK {
			continue
		}
		if e != api.OK || costOf(l) < cost {
			set, cost, many, e = i, costOf(l), 0, api.OK
		}
		if costOf(l) == cost {
			many++
		}
	}
	return set, cost, many, e
}

// settles returns whether a test reads no number both of a complete list and of another one.
func settles(b api.Box, t api.Test, complete, others [][]int) bool {
	set := map[int]bool{}
	for _, has := range complete {
		for n := range slowReads(b, has, t) {
			set[n] = true
		}
	}
	for _, has := range others {
		for n := range slowReads(b, has, t) {
			if set[n] {
				return false
			}
		}
	}
	return true
}

// slowNext returns what Next should, and how many tests that settle it cost as much.
func slowNext(b api.Box, l []api.Reading, tests []api.Test) (test, many int, e api.Errno) {
	complete, others := slowFits(b, l)
	if len(complete) == 0 || len(others) == 0 {
		return 0, 0, api.ErrState
	}
	e = api.ErrNone
	for i, t := range tests {
		if !settles(b, t, complete, others) {
			continue
		}
		if e != api.OK || t.Cost < tests[test].Cost {
			test, many, e = i, 0, api.OK
		}
		if t.Cost == tests[test].Cost {
			many++
		}
	}
	return test, many, e
}
