package anew

import (
	"jigworks/api"
	"jigworks/fit"
)

// behind is what lies behind a side of a cell.
type behind interface {
	// fits returns whether a side fits it.
	fits(p api.Play, own api.Edge) int
	// edge returns the side that meets the cell's own one there, and a flat one if there is none.
	edge() api.Edge
}

type (
	rim     struct{}
	side    api.Edge
	nothing struct{} // the place of the lost piece
)

func (rim) fits(_ api.Play, own api.Edge) int {
	if own.Kind == api.EdgeFlat {
		return api.FitAlways
	}
	return api.FitNever
}

func (s side) fits(p api.Play, own api.Edge) int {
	fits, _ := fit.Fit(p, own, s.edge())
	return fits
}

func (nothing) fits(api.Play, api.Edge) int { return api.FitAlways }

func (rim) edge() api.Edge { return api.Edge{} }

func (s side) edge() api.Edge { return api.Edge(s) }

func (nothing) edge() api.Edge { return api.Edge{} }
