package press

import (
	"sort"

	"jigworks/api"
)

// fold joins values one after the other, from a first one on.
func fold[T any](join func(a, b T) T, first T, others ...T) T {
	for _, x := range others {
		first = join(first, x)
	}
	return first
}

// apart returns by how much two shifts differ, at least and at most.
func apart(a, b api.Span) api.Span {
	return api.Span{Lo: max(0, a.Lo-b.Hi, b.Lo-a.Hi), Hi: max(a.Hi-b.Lo, b.Hi-a.Lo)}
}

// furthest returns the span of the greater ends of two spans.
func furthest(a, b api.Span) api.Span {
	return api.Span{Lo: max(a.Lo, b.Lo), Hi: max(a.Hi, b.Hi)}
}

// fringe returns the least and the greatest fringe of shifts. While the two that must differ most do so by no more than they must, all others can lie between them.
func fringe(shifts []api.Span) api.Span {
	var pairs []api.Span
	for i, a := range shifts {
		for _, b := range shifts[:i] {
			pairs = append(pairs, apart(a, b))
		}
	}
	return fold(furthest, api.Span{}, pairs...)
}

// good returns how many sheets of so many are good, at least and at most.
func good(spoil api.Span, sheets int) api.Span {
	fewestSpoilt := sheets * spoil.Lo / 1000
	mostSpoilt := (sheets*spoil.Hi + 999) / 1000
	return api.Span{Lo: sheets - mostSpoilt, Hi: sheets - fewestSpoilt}
}

// sheetsFor returns the least number of sheets of which so many are surely good. Of more sheets no fewer are.
func sheetsFor(spoil api.Span, need int) int {
	return sort.Search(api.MaxSheets, func(sheets int) bool { return good(spoil, sheets).Lo >= need })
}
