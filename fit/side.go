package fit

import (
	"slices"

	"jigworks/api"
)

// isPlay returns whether what is allowed is valid.
func isPlay(p api.Play) bool {
	return p.Length >= 1 && p.Length <= api.MaxLength &&
		p.Slack >= 0 && p.Slack <= api.MaxSlack &&
		p.Loose >= 0 && p.Loose <= api.MaxSlack &&
		span(p.Damp).within(0, api.MaxDamp)
}

// areSides returns whether all sides are valid.
func areSides(l ...api.Edge) bool {
	return !slices.ContainsFunc(l, func(s api.Edge) bool { return !isSide(s) })
}

func isSide(s api.Edge) bool {
	switch s.Kind {
	case api.EdgeFlat:
		return true
	case api.EdgeTab, api.EdgeHole:
		return span(s.At).within(0, api.MaxLength) && isBroad(s.Wide) && isBroad(s.Deep)
	}
	return false
}

// isBroad returns whether a tab or a hole can be so wide, or so deep.
func isBroad(s api.Span) bool { return span(s).within(1, api.MaxTab) }

func isWear(s api.Span) bool { return span(s).within(0, api.MaxWear) }

// areOf returns whether all sides are of one kind.
func areOf(kind int, l []api.Edge) bool {
	return !slices.ContainsFunc(l, func(s api.Edge) bool { return s.Kind != kind })
}

// worn returns a tab or a hole after some strokes, and whether it can be so.
func worn(s api.Edge, wear span, strokes int) (api.Edge, bool) {
	change := []func(span, span) span{api.EdgeTab: span.less, api.EdgeHole: span.plus}
	wide := change[s.Kind](span(s.Wide).times(1000), wear.times(strokes))
	s.Wide = api.Span(wide.rounded())
	return s, isBroad(s.Wide)
}
