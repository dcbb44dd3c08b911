package rule

import (
	"sort"

	"jigworks/api"
)

// off is by how much a blade is off, at least and at most, so many thousands of strokes after it was bent.
type off struct{ least, greatest func(strokes int) int }

// offOf returns by how much a blade is off.
func offOf(b api.Blade) off {
	after := func(fresh, wear int) func(int) int {
		return func(strokes int) int { return fresh + strokes*wear }
	}
	return off{after(b.Fresh.Lo, b.Wears.Lo), after(b.Fresh.Hi, b.Wears.Hi)}
}

// lasts returns up to how many thousands of strokes a blade is within a bound. When it has just been bent it must be.
func lasts(by func(strokes int) int, bound int) int {
	return sort.Search(longest, func(n int) bool { return by(n+1) > bound })
}
