package scale

import "jigworks/api"

// spread is a span that can be reckoned with.
type spread api.Span

// just returns the spread of one number.
func just(n int) spread { return spread{Lo: n, Hi: n} }

// plus returns what two numbers can be together.
func (s spread) plus(t spread) spread { return spread{Lo: s.Lo + t.Lo, Hi: s.Hi + t.Hi} }

// times returns what n numbers of a spread can be together.
func (s spread) times(n int) spread { return spread{Lo: s.Lo * n, Hi: s.Hi * n} }

// with returns a spread that has one number more.
func (s spread) with(n int) spread { return spread{Lo: min(s.Lo, n), Hi: max(s.Hi, n)} }

// meets returns whether two spreads have a number in common.
func (s spread) meets(t spread) bool { return s.Lo <= t.Hi && t.Lo <= s.Hi }

// sum returns one value and some others together.
func sum[T any](plus func(T, T) T, all T, others ...T) T {
	for _, x := range others {
		all = plus(all, x)
	}
	return all
}
