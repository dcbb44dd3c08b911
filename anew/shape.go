package anew

import (
	"jigworks/api"
	"jigworks/fit"
)

// shape returns a side each number of which, by itself, always fits a tab or a hole, and whether there is one.
func shape(p api.Play, other api.Edge) (api.Edge, bool) {
	made := api.Edge{Kind: api.EdgeTab}
	if other.Kind == api.EdgeTab {
		made.Kind = api.EdgeHole
	}
	between := func(at, broad int) api.Gap {
		one := api.Span{Lo: broad, Hi: broad}
		g, _ := fit.Between(p, api.Edge{Kind: made.Kind, At: api.Span{Lo: at, Hi: at}, Wide: one, Deep: one}, other)
		return g
	}
	slack, loose := api.Span{Lo: -p.Slack, Hi: p.Slack}, api.Span{Hi: p.Loose}
	grows := made.Kind == api.EdgeHole
	made.At = always(0, api.MaxLength, slack, true, func(n int) api.Span { return between(n, 1).At })
	made.Wide = always(1, api.MaxTab, loose, grows, func(n int) api.Span { return between(0, n).Wide })
	made.Deep = always(1, api.MaxTab, loose, grows, func(n int) api.Span { return between(0, n).Deep })
	return made, made.At.Lo <= made.At.Hi && made.Wide.Lo <= made.Wide.Hi && made.Deep.Lo <= made.Deep.Hi
}

// always returns the numbers from lo to hi with which what lies between two sides is surely allowed; it grows with them, or falls.
func always[N ~int](lo, hi N, allowed api.Span, grows bool, between func(N) api.Span) api.Span {
	enough := func(n N) bool { return between(n).Lo >= allowed.Lo }
	tooMuch := func(n N) bool { return between(n).Hi > allowed.Hi }
	if !grows {
		enough = func(n N) bool { return between(n).Hi <= allowed.Hi }
		tooMuch = func(n N) bool { return between(n).Lo < allowed.Lo }
	}
	return api.Span{Lo: int(least(lo, hi+1, enough)), Hi: int(least(lo, hi+1, tooMuch)) - 1}
}

// least returns the least number from lo on, and below hi, of which something is so, if it is so of all greater ones; hi if there is none.
func least[N ~int](lo, hi N, so func(N) bool) N {
	for lo < hi {
		middle := lo + (hi-lo)/2
		if so(middle) {
			hi = middle
		} else {
			lo = middle + 1
		}
	}
	return lo
}
