package fit

import (
	"iter"
	"slices"

	"jigworks/api"
)

// match is a tab, and a hole that it could go into.
type match [2]api.Edge

// ordered returns two sides as a tab and a hole, and whether they are.
func ordered(a, b api.Edge) (match, bool) {
	m := match{a, b}
	if m[0].Kind == api.EdgeHole {
		m[0], m[1] = m[1], m[0]
	}
	return m, m[0].Kind == api.EdgeTab && m[1].Kind == api.EdgeHole
}

// off, wide and deep return by what a tab and a hole differ, without damp.
func (m match) off(length int) span {
	return span(m[0].At).plus(span(m[1].At)).less(span{length, length})
}

func (m match) wide() span { return span(m[1].Wide).less(span(m[0].Wide)) }

func (m match) deep() span { return span(m[1].Deep).less(span(m[0].Deep)) }

// difference is a number by which a tab and a hole differ: it says whether it is allowed.
type difference interface{ fits(p api.Play) int }

type (
	off  span
	wide span
	deep span
)

func (d off) fits(p api.Play) int { return span(d).verdict(-p.Slack, p.Slack, span(p.Damp)) }

func (d wide) fits(p api.Play) int { return span(d).verdict(0, p.Loose, span(p.Damp)) }

func (d deep) fits(p api.Play) int { return span(d).verdict(0, p.Loose, span(p.Damp)) }

func (m match) differences(p api.Play) []difference {
	return []difference{off(m.off(p.Length)), wide(m.wide()), deep(m.deep())}
}

// verdicts returns whether each side of a list fits a side.
func verdicts(p api.Play, s api.Edge, l []api.Edge) []int {
	found := make([]int, len(l))
sides:
	for i, x := range l {
		m, ok := ordered(s, x)
		if !ok {
			continue
		}
		// What fits best does so with the same damp for all differences, the least one: if each of them may be allowed, all may at once.
		verdict := api.FitAlways
		for _, d := range m.differences(p) {
			v := d.fits(p)
			if v == api.FitNever {
				continue sides
			}
			verdict = min(verdict, v)
		}
		found[i] = verdict
	}
	return found
}

// indices returns where in a list a number is one of some.
func indices(l []int, which ...int) []int {
	var found []int
	for i, n := range l {
		if slices.Contains(which, n) {
			found = append(found, i)
		}
	}
	return found
}

// worn returns a tab and a hole after some strokes, and whether both can be so.
func (m match) worn(wear span, strokes int) (match, bool) {
	tab, tabOK := worn(m[0], wear, strokes)
	hole, holeOK := worn(m[1], wear, strokes)
	return match{tab, hole}, tabOK && holeOK
}

// strokes returns after which numbers of strokes a tab and a hole fit always, and whether there are any. The more strokes there are, the looser both are, and once one of them cannot be so it never can again.
func (m match) strokes(p api.Play, wear span) (from, to int, ok bool) {
	from = least(0, api.MaxStrokes+1, func(n int) bool {
		w, can := m.worn(wear, n)
		return !can || w.wide().Lo >= 0
	})
	behind := least(from, api.MaxStrokes+1, func(n int) bool {
		w, can := m.worn(wear, n)
		return !can || w.wide().damped(span(p.Damp)).Hi > 1000*p.Loose
	})
	if from == behind {
		return 0, 0, false
	}
	w, _ := m.worn(wear, from)
	return from, behind - 1, verdicts(p, w[0], w[1:])[0] == api.FitAlways
}

// pairings yields all pairings of tabs and holes, in lexicographic order.
func pairings(p api.Play, tabs, holes []api.Edge) iter.Seq[[]int] {
	return func(yield func([]int) bool) {
		goes := make([][]int, len(tabs))
		for i, s := range tabs {
			goes[i] = indices(verdicts(p, s, holes), api.FitAlways, api.FitPerhaps)
		}
		taken := map[int]bool{}
		var l []int
		var place func() bool
		place = func() bool {
			if len(l) == len(tabs) {
				return yield(slices.Clone(l))
			}
			for _, hole := range goes[len(l)] {
				if taken[hole] {
					continue
				}
				taken[hole] = true
				l = append(l, hole)
				if !place() {
					return false
				}
				l = l[:len(l)-1]
				delete(taken, hole)
			}
			return true
		}
		place()
	}
}
