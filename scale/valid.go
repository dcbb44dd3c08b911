package scale

import (
	"slices"

	"jigworks/api"
)

// isFrom returns whether a number is from lo to hi.
func isFrom(lo, hi, n int) bool { return lo <= n && n <= hi }

// isWithin returns whether a span is valid, and within lo to hi.
func isWithin(lo, hi int, s api.Span) bool { return lo <= s.Lo && s.Lo <= s.Hi && s.Hi <= hi }

// isBox returns whether a box is valid.
func isBox(b api.Box) bool {
	wrong := func(k api.Kind) bool {
		return !isFrom(0, api.MaxOf, k.Many) || !isWithin(0, api.MaxHeavy, k.Weight)
	}
	return isFrom(1, api.MaxBoxKinds, len(b.Kinds)) && !slices.ContainsFunc(b.Kinds, wrong) &&
		isWithin(0, api.MaxHeavy, b.Bag) && isFrom(0, api.MaxLost, b.Lost) && isFrom(0, api.MaxExtra, b.Extra)
}

// isTest returns whether a test of a valid box is valid.
func isTest(b api.Box, t api.Test) bool {
	switch t.How {
	case api.TestScale:
	case api.TestCamera:
		if !isFrom(0, 1<<len(b.Kinds)-1, t.Kinds) {
			return false
		}
	default:
		return false
	}
	return isWithin(-api.MaxErr, api.MaxErr, t.Err) && t.Pass.Lo <= t.Pass.Hi && isFrom(0, api.MaxTestCost, t.Cost)
}

// check returns the error of a box, of readings, or of tests.
func check(b api.Box, l []api.Reading, tests []api.Test) api.Errno {
	if !isBox(b) {
		return api.ErrArg
	}
	if len(l) > api.MaxReadings || len(tests) > api.MaxTests {
		return api.ErrLong
	}
	for _, r := range l {
		if !isTest(b, r.Test) {
			return api.ErrArg
		}
	}
	for _, t := range tests {
		if !isTest(b, t) {
			return api.ErrArg
		}
	}
	return api.OK
}

// canHave returns whether a valid box can have a list.
func canHave(b api.Box, has []int) bool {
	if len(has) != len(b.Kinds) {
		return false
	}
	lost, extra := 0, 0
	for kind, n := range has {
		if !isFrom(-b.Kinds[kind].Many, b.Extra, n) {
			return false
		}
		lost -= min(n, 0)
		extra += max(n, 0)
	}
	return lost <= b.Lost && extra <= b.Extra
}
