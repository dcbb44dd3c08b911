package fit_test

import (
	"iter"
	"math"
	"slices"

	"jigworks/api"
)

func span(lo, hi int) api.Span { return api.Span{Lo: lo, Hi: hi} }

func tab(at, wide, deep api.Span) api.Edge {
	return api.Edge{Kind: api.EdgeTab, At: at, Wide: wide, Deep: deep}
}

func hole(at, wide, deep api.Span) api.Edge {
	return api.Edge{Kind: api.EdgeHole, At: at, Wide: wide, Deep: deep}
}

// play is what the examples of the chapter allow.
func play() api.Play {
	return api.Play{Length: 2000, Slack: 20, Loose: 30, Damp: span(0, 10)}
}

// The sides of the examples of the chapter.
func sideA() api.Edge { return tab(span(995, 1005), span(500, 510), span(400, 405)) }
func sideB() api.Edge { return hole(span(990, 1000), span(515, 520), span(410, 420)) }
func sideC() api.Edge { return hole(span(1000, 1010), span(505, 520), span(410, 420)) }
func sideD() api.Edge { return hole(span(990, 1000), span(480, 495), span(410, 420)) }
func sideE() api.Edge { return tab(span(980, 985), span(480, 485), span(390, 395)) }
func sideF() api.Edge { return tab(span(980, 985), span(476, 480), span(390, 395)) }

func flat() api.Edge { return api.Edge{} }

// oddFlat is a flat side with all else as no tab could have it.
func oddFlat() api.Edge {
	return api.Edge{At: span(5, -5), Wide: span(math.MaxInt, math.MinInt), Deep: span(math.MinInt, math.MaxInt)}
}

// plays returns what is allowed when it is the greatest, and the least.
func plays() []api.Play {
	return []api.Play{
		play(),
		{Length: 1},
		{Length: api.MaxLength, Slack: api.MaxSlack, Loose: api.MaxSlack, Damp: span(0, api.MaxDamp)},
		{Length: api.MaxLength, Damp: span(api.MaxDamp, api.MaxDamp)},
	}
}

// badPlays returns what cannot be allowed.
func badPlays() []api.Play {
	return []api.Play{
		{}, {Length: -1}, {Length: api.MaxLength + 1}, {Length: math.MinInt}, {Length: math.MaxInt},
		{Length: 1, Slack: -1}, {Length: 1, Slack: api.MaxSlack + 1}, {Length: 1, Slack: math.MinInt}, {Length: 1, Slack: math.MaxInt},
		{Length: 1, Loose: -1}, {Length: 1, Loose: api.MaxSlack + 1}, {Length: 1, Loose: math.MinInt}, {Length: 1, Loose: math.MaxInt},
		{Length: 1, Damp: span(-1, 0)}, {Length: 1, Damp: span(1, 0)}, {Length: 1, Damp: span(0, api.MaxDamp+1)},
		{Length: 1, Damp: span(api.MaxDamp+1, api.MaxDamp+1)}, {Length: 1, Damp: span(math.MinInt, math.MaxInt)},
		{Length: 1, Damp: span(-2, -1)},
	}
}

// goodSides returns sides that are valid, the greatest and the least ones among them.
func goodSides() []api.Edge {
	return []api.Edge{
		sideA(), sideB(), sideC(), sideD(), sideE(), sideF(), flat(), oddFlat(),
		tab(span(0, 0), span(1, 1), span(1, 1)), hole(span(0, 0), span(1, 1), span(1, 1)),
		tab(span(0, api.MaxLength), span(1, api.MaxTab), span(1, api.MaxTab)),
		hole(span(0, api.MaxLength), span(1, api.MaxTab), span(1, api.MaxTab)),
		hole(span(api.MaxLength, api.MaxLength), span(api.MaxTab, api.MaxTab), span(api.MaxTab, api.MaxTab)),
	}
}

// badSides returns sides that are not valid.
func badSides() []api.Edge {
	l := []api.Edge{{Kind: -1}, {Kind: 3}, {Kind: math.MinInt}, {Kind: math.MaxInt}, {Kind: api.EdgeTab}, {Kind: api.EdgeHole}}
	for _, good := range []api.Edge{sideA(), sideB()} {
		for _, s := range []api.Span{span(-1, 5), span(1000, 999), span(0, api.MaxLength+1), span(api.MaxLength+1, api.MaxLength+1), span(math.MinInt, math.MaxInt)} {
			bad := good
			bad.At = s
			l = append(l, bad)
		}
		for _, s := range []api.Span{span(0, 5), span(500, 499), span(1, api.MaxTab+1), span(api.MaxTab+1, api.MaxTab+1), span(0, 0), span(math.MinInt, math.MaxInt)} {
			bad, deep := good, good
			bad.Wide, deep.Deep = s, s
			l = append(l, bad, deep)
		}
		other := good
		other.Kind = 3
		l = append(l, other)
	}
	return l
}

// badWears returns spans of wear that are none.
func badWears() []api.Span {
	return []api.Span{
		span(-1, 0), span(-2, -1), span(1, 0), span(0, api.MaxWear+1), span(api.MaxWear+1, api.MaxWear+1), span(math.MinInt, math.MaxInt), span(math.MaxInt, math.MinInt),
	}
}

// truth is how a tab and a hole, or two other sides, truly are.
type truth struct {
	at, wide, deep [2]int
	damp           int
}

func each(s api.Span) iter.Seq[int] {
	return func(yield func(int) bool) {
		for n := s.Lo; n <= s.Hi; n++ {
			if !yield(n) {
				return
			}
		}
	}
}

// truths yields all truths of two sides.
func truths(p api.Play, a, b api.Edge) iter.Seq[truth] {
	spans := []api.Span{a.At, b.At, a.Wide, b.Wide, a.Deep, b.Deep, p.Damp}
	return func(yield func(truth) bool) {
		l := make([]int, len(spans))
		var choose func(i int) bool
		choose = func(i int) bool {
			if i == len(spans) {
				return yield(truth{[2]int{l[0], l[1]}, [2]int{l[2], l[3]}, [2]int{l[4], l[5]}, l[6]})
			}
			for n := range each(spans[i]) {
				l[i] = n
				if !choose(i + 1) {
					return false
				}
			}
			return true
		}
		choose(0)
	}
}

// differ returns off, wide and deep of a tab and a hole in a truth, in thousandths.
func differ(p api.Play, a api.Edge, x truth) [3]int {
	t, h := 0, 1
	if a.Kind == api.EdgeHole {
		t, h = 1, 0
	}
	d := [3]int{x.at[t] + x.at[h] - p.Length, x.wide[h] - x.wide[t], x.deep[h] - x.deep[t]}
	for i := range d {
		d[i] *= 1000 + x.damp
	}
	return d
}

// paired returns whether one of two sides is a tab, and the other one a hole.
func paired(a, b api.Edge) bool {
	return a.Kind == api.EdgeTab && b.Kind == api.EdgeHole || a.Kind == api.EdgeHole && b.Kind == api.EdgeTab
}

// fitsIn returns whether two sides fit in a truth.
func fitsIn(p api.Play, a, b api.Edge, x truth) bool {
	if !paired(a, b) {
		return false
	}
	d := differ(p, a, x)
	return d[0] >= -1000*p.Slack && d[0] <= 1000*p.Slack && d[1] >= 0 && d[1] <= 1000*p.Loose && d[2] >= 0 && d[2] <= 1000*p.Loose
}

// slowFit goes through all truths.
func slowFit(p api.Play, a, b api.Edge) int {
	if !paired(a, b) {
		return api.FitNever
	}
	some, all := false, true
	for x := range truths(p, a, b) {
		if fitsIn(p, a, b, x) {
			some = true
		} else {
			all = false
		}
	}
	switch {
	case all:
		return api.FitAlways
	case some:
		return api.FitPerhaps
	}
	return api.FitNever
}

// around returns the least span of whole numbers around numbers of thousandths.
func around(lo, hi int) api.Span {
	s := span(lo/1000-2, hi/1000+2)
	for (s.Lo+1)*1000 <= lo {
		s.Lo++
	}
	for (s.Hi-1)*1000 >= hi {
		s.Hi--
	}
	return s
}

// slowBetween goes through all truths.
func slowBetween(p api.Play, a, b api.Edge) api.Gap {
	var lo, hi [3]int
	first := true
	for x := range truths(p, a, b) {
		d := differ(p, a, x)
		for i, n := range d {
			if first || n < lo[i] {
				lo[i] = n
			}
			if first || n > hi[i] {
				hi[i] = n
			}
		}
		first = false
	}
	return api.Gap{At: around(lo[0], hi[0]), Wide: around(lo[1], hi[1]), Deep: around(lo[2], hi[2])}
}

// slowWorn goes through all wholes of width and wear, and returns the span of the width, whatever it is.
func slowWorn(s api.Edge, wear api.Span, strokes int) api.Span {
	sign := 1
	if s.Kind == api.EdgeTab {
		sign = -1
	}
	lo, hi := math.MaxInt, math.MinInt
	for wide := range each(s.Wide) {
		for by := range each(wear) {
			n := 1000*wide + sign*by*strokes
			lo, hi = min(lo, n), max(hi, n)
		}
	}
	return around(lo, hi)
}

// seeds makes numbers that look like chance, always the same ones.
type seeds uint64

// upTo returns a number from 0 to n - 1.
func (s *seeds) upTo(n int) int {
	*s = *s*6364136223846793005 + 1442695040888963407
	return int(uint64(*s)>>33) % n
}

// near returns a span about a number, at most so wide.
func (s *seeds) near(n, wide int) api.Span {
	lo := n + s.upTo(2*wide+1) - wide
	return span(lo, lo+s.upTo(wide+1))
}

// some returns what is allowed, a tab and a hole, such that all that can be is about as frequent, with spans at most so wide.
func (s *seeds) some(wide int) (api.Play, api.Edge, api.Edge) {
	p := api.Play{Length: 1000 + s.upTo(3), Slack: s.upTo(7), Loose: s.upTo(10), Damp: span(s.upTo(3), 0)}
	if s.upTo(3) == 0 {
		p.Damp.Lo *= 40
	}
	p.Damp.Hi = p.Damp.Lo + s.upTo(3)
	grown := s.upTo(3)
	a := tab(s.near(400, wide), s.near(50, wide), s.near(30, wide))
	b := hole(s.near(601, wide), s.near(51+grown, wide), s.near(31+grown, wide))
	if s.upTo(2) == 0 {
		a, b = b, a
	}
	if s.upTo(12) == 0 {
		a.Kind = s.upTo(3)
	}
	return p, a, b
}

// narrowed returns a span within a span.
func (s *seeds) narrowed(x api.Span) api.Span {
	lo := x.Lo + s.upTo(x.Hi-x.Lo+1)
	return span(lo, lo+s.upTo(x.Hi-lo+1))
}

func (s *seeds) narrowedSide(x api.Edge) api.Edge {
	return api.Edge{Kind: x.Kind, At: s.narrowed(x.At), Wide: s.narrowed(x.Wide), Deep: s.narrowed(x.Deep)}
}

// contains returns whether a span contains all of another one.
func contains(s, inner api.Span) bool { return s.Lo <= inner.Lo && inner.Hi <= s.Hi }

// mates returns tabs and holes of about the same sizes, each fitting some others.
func (s *seeds) mates(n int) (p api.Play, tabs, holes []api.Edge) {
	p = api.Play{Length: 1000, Slack: 5, Loose: 3 + s.upTo(3), Damp: span(0, s.upTo(8))}
	for range n {
		wide, other := 50+2*s.upTo(4), 50+2*s.upTo(4)
		tabs = append(tabs, tab(s.near(400, 1), span(wide, wide+s.upTo(2)), span(30, 31)))
		holes = append(holes, hole(s.near(600, 1), span(other+1, other+1+s.upTo(3)), span(32, 33)))
	}
	return p, tabs, holes
}

// slowPairings goes through all orders of holes.
func slowPairings(p api.Play, tabs, holes []api.Edge, fits func(i, j int) bool) [][]int {
	var found [][]int
	var order func(l []int)
	order = func(l []int) {
		if len(l) == len(tabs) {
			for i, j := range l {
				if !fits(i, j) {
					return
				}
			}
			found = append(found, slices.Clone(l))
			return
		}
		for j := range holes {
			if !slices.Contains(l, j) {
				order(append(slices.Clone(l), j))
			}
		}
	}
	order(nil)
	return found
}
