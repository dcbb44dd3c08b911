package press

import (
	"iter"
	"slices"
)

// orders yields all orders of so many jobs in lexicographic order. It changes each of them into the next one.
func orders(jobs int) iter.Seq[[]int] {
	return func(yield func([]int) bool) {
		var order []int
		for job := range jobs {
			order = append(order, job)
		}
		for yield(order) && advance(order) {
		}
	}
}

// advance changes an order into the next one, in lexicographic order, and returns whether there is one.
func advance(order []int) bool {
	at := len(order) - 2
	for at >= 0 && order[at] > order[at+1] {
		at--
	}
	if at < 0 {
		return false
	}
	next := len(order) - 1
	for order[next] < order[at] {
		next--
	}
	order[at], order[next] = order[next], order[at]
	slices.Reverse(order[at+1:])
	return true
}

// earliest returns the order with which all is done earliest, of several the first one, and when that is.
func earliest(l []times) (best []int, hour int) {
search:
	for order := range orders(len(l)) {
		works := newLine()
		done := 0
		for place, job := range order {
			done = works.put(l[job])
			if best != nil && done >= hour || followsTwin(l, order[:place], job) {
				continue search
			}
		}
		best, hour = slices.Clone(order), done
	}
	return best, hour
}

// followsTwin returns whether a job comes after one with the same times and a greater number. With both exchanged the order is done as early, and comes before.
func followsTwin(l []times, before []int, job int) bool {
	return slices.ContainsFunc(before, func(other int) bool { return other > job && l[other] == l[job] })
}

// pathsOf returns, for each job in an order, how long it takes to print all jobs up to it, and to lay it and all jobs after it.
func pathsOf(l []times, order []int) []int {
	path := 0
	for _, t := range l {
		path += t.lay
	}
	var paths []int
	for _, job := range order {
		path += l[job].print
		paths = append(paths, path)
		path -= l[job].lay
	}
	return paths
}
