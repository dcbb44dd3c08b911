package solve

import (
	"slices"

	"jigworks/api"
)

// puts is what has been laid.
type puts []api.Put

// isPut returns whether a put is valid.
func (b board) isPut(p api.Put) bool {
	return b.isNumber(p.Cell) && b.isNumber(p.Lay.Piece) && p.Lay.Turn >= 0 && p.Lay.Turn < b.turns(p.Lay.Piece)
}

// check returns the error of the first put that has one.
func (l puts) check(isPut func(api.Put) bool) api.Errno {
	for i := range len(l) {
		if !isPut(l[i]) {
			return api.ErrRange
		}
		if slices.ContainsFunc(l[:i], func(p api.Put) bool { return p.Cell == l[i].Cell || p.Lay.Piece == l[i].Lay.Piece }) {
			return api.ErrTwice
		}
	}
	return api.OK
}

// in returns how many of the first puts a solution has as they were put.
func (l puts) in(solution []api.Lay) int {
	for i := range len(l) {
		if solution[l[i].Cell] != l[i].Lay {
			return i
		}
	}
	return len(l)
}

// kept returns how many of the first puts some solution has, and whether there is a solution.
func (b board) kept(l puts) (most int, ok bool) {
	for s := range b.solutions() {
		most, ok = max(most, l.in(s)), true
		if most == len(l) {
			break
		}
	}
	return most, ok
}
