package press

import (
	"slices"

	"jigworks/api"
)

// maxNeed is the most good sheets that can be needed.
const maxNeed = 50000

// isFrom returns whether a number is from lo to hi.
func isFrom(lo, hi, n int) bool { return lo <= n && n <= hi }

// isWithin returns whether a span is valid, and within lo to hi.
func isWithin(lo, hi int, s api.Span) bool { return lo <= s.Lo && s.Lo <= s.Hi && s.Hi <= hi }

// areShifts returns whether shifts are valid.
func areShifts(l []api.Shift) bool {
	wrong := func(s api.Shift) bool {
		return !isWithin(-api.MaxShift, api.MaxShift, s.X) || !isWithin(-api.MaxShift, api.MaxShift, s.Y)
	}
	return isFrom(1, api.MaxColours, len(l)) && !slices.ContainsFunc(l, wrong)
}

// isSpoilage returns whether a spoilage is valid.
func isSpoilage(s api.Span) bool { return isWithin(0, api.MaxSpoil, s) }

// areJobs returns whether jobs are valid.
func areJobs(l []api.Job) bool {
	wrong := func(j api.Job) bool {
		return !isWithin(0, api.MaxTime, j.Print) || !isWithin(0, api.MaxTime, j.Lay) || !isFrom(0, api.MaxHour, j.Due)
	}
	return len(l) <= api.MaxJobs && !slices.ContainsFunc(l, wrong)
}

// isOrder returns whether each number of so many jobs comes once in a list.
func isOrder(jobs int, order []int) bool {
	if len(order) != jobs {
		return false
	}
	for job := range jobs {
		if !slices.Contains(order, job) {
			return false
		}
	}
	return true
}

// check returns the error of jobs, or of an order of them.
func check(l []api.Job, order []int) api.Errno {
	if !areJobs(l) {
		return api.ErrArg
	}
	if !isOrder(len(l), order) {
		return api.ErrRange
	}
	return api.OK
}
