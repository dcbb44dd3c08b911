package rule

import (
	"slices"

	"jigworks/api"
)

// longest is the most thousands of strokes that all stints can have together.
const longest = api.MaxStints * api.MaxRun

// isFrom returns whether a number is from lo to hi.
func isFrom(lo, hi, n int) bool { return lo <= n && n <= hi }

// isDie returns whether a die is valid.
func isDie(d api.Die) bool {
	wrong := func(b api.Blade) bool { return !isAway(b.Fresh) || !isAway(b.Wears) }
	return isFrom(1, api.MaxBlades, len(d.Blades)) && !slices.ContainsFunc(d.Blades, wrong) &&
		isFrom(0, api.MaxBound, d.Bound) && isFrom(0, api.MaxPrice, d.Stop) && isFrom(0, api.MaxPrice, d.Bend)
}

// isAway returns whether a blade can be off, or wear, by the numbers of a span.
func isAway(s api.Span) bool { return 0 <= s.Lo && s.Lo <= s.Hi && s.Hi <= api.MaxAway }

// hasBlade returns whether a number is that of a blade.
func hasBlade(d api.Die, blade int) bool { return isFrom(0, len(d.Blades)-1, blade) }

// areStints returns whether stints are valid.
func areStints(l []api.Stint) bool {
	wrong := func(s api.Stint) bool {
		return !isFrom(1, api.MaxRun, s.Strokes) || !isFrom(0, api.MaxBound, s.More)
	}
	return len(l) <= api.MaxStints && !slices.ContainsFunc(l, wrong)
}

// isPlan returns whether a list is a plan for stints, be it good or not.
func isPlan(d api.Die, l []api.Stint, plan []int) bool {
	wrong := func(set int) bool { return !isFrom(0, allBlades(d), set) }
	return len(plan) == max(0, len(l)-1) && !slices.ContainsFunc(plan, wrong)
}

// allBlades returns the set of all blades, which is the greatest set as a number.
func allBlades(d api.Die) int { return 1<<len(d.Blades) - 1 }
