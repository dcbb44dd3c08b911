package fit

import "jigworks/api"

// span is a span that numbers are added to, and taken from.
type span api.Span

// within returns whether a span is valid, and from lo to hi.
func (s span) within(lo, hi int) bool { return lo <= s.Lo && s.Lo <= s.Hi && s.Hi <= hi }

// plus returns what numbers of both spans can be together.
func (s span) plus(o span) span { return span{s.Lo + o.Lo, s.Hi + o.Hi} }

// less returns by how much numbers of a span can be greater than those of another one.
func (s span) less(o span) span { return span{s.Lo - o.Hi, s.Hi - o.Lo} }

func (s span) times(n int) span { return span{s.Lo * n, s.Hi * n} }

// damped returns, in thousandths, what damp makes of the numbers of a span: what is below 0 becomes less.
func (s span) damped(damp span) span {
	d := damp.plus(span{1000, 1000})
	return span{min(s.Lo*d.Lo, s.Lo*d.Hi), max(s.Hi*d.Lo, s.Hi*d.Hi)}
}

// rounded returns a span of thousandths in whole numbers, with all that was within it.
func (s span) rounded() span { return span{thousands(s.Lo), -thousands(-s.Hi)} }

// thousands returns a thousandth of a number, rounded down.
func thousands(n int) int {
	if n < 0 {
		return (n - 999) / 1000
	}
	return n / 1000
}

// verdict returns whether numbers of a span are from lo to hi in damp, where 0 is from lo to hi.
func (s span) verdict(lo, hi int, damp span) int {
	lo, hi = 1000*lo, 1000*hi
	if s.damped(damp).within(lo, hi) {
		return api.FitAlways
	}
	// As 0 is allowed, so is each number between it and one that is: the number nearest to 0, with the least damp, is the best one.
	near := min(max(0, s.Lo), s.Hi)
	best := span{near, near}.damped(span{damp.Lo, damp.Lo})
	if best.within(lo, hi) {
		return api.FitPerhaps
	}
	return api.FitNever
}

// least returns the least number from lo on, and below hi, of which something is so, if it is so of all greater ones; hi if there is none.
func least[N ~int](lo, hi N, so func(N) bool) N {
	for lo < hi {
		middle := lo + (hi-lo)/2
		if so(middle) {
			hi = middle
		} else {
			lo = middle + 1
		}
	}
	return lo
}
