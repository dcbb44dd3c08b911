package scan

import (
	"slices"

	"jigworks/api"
)

// every returns whether something is so of all elements of a list.
func every[T any](is func(T) bool, l ...T) bool {
	return !slices.ContainsFunc(l, func(x T) bool { return !is(x) })
}

// fold adds all elements of a list, one after the other, to what is known.
func fold[S, T any](l []T, known S, add func(S, T) S) S {
	for _, x := range l {
		known = add(known, x)
	}
	return known
}

// listOf returns what is found for each number from 0 to n - 1.
func listOf[T any](n int, of func(int) T) []T {
	var l []T
	for i := range n {
		l = append(l, of(i))
	}
	return l
}

// gather adds seats to a list, each of them once.
func gather(l []api.Seat, more ...api.Seat) []api.Seat {
	for _, s := range more {
		if !slices.Contains(l, s) {
			l = append(l, s)
		}
	}
	return l
}
