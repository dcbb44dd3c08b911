package ring

import (
	"slices"

	"jigworks/api"
)

func isMarket(m api.Market) bool {
	if len(m.Wishes) > api.MaxTraders {
		return false
	}
	for person, row := range m.Wishes {
		if len(row) != len(m.Wishes) || row[person] != 0 || !areFrom(0, api.MaxWorth, row) {
			return false
		}
	}
	return true
}

// isExchange returns whether a list has as many persons as there are, and each of them once.
func isExchange(gets []int, persons int) bool {
	if len(gets) != persons {
		return false
	}
	for person := range persons {
		if !slices.Contains(gets, person) {
			return false
		}
	}
	return true
}

func arePrices(l []int, persons int) bool {
	return len(l) == persons && areFrom(0, api.MaxCharge, l)
}

// areFrom returns whether all numbers are from lo to hi.
func areFrom(lo, hi int, l []int) bool {
	return !slices.ContainsFunc(l, func(n int) bool { return n < lo || n > hi })
}

// check returns the error of a market, or of an exchange of its persons.
func check(m api.Market, gets []int) api.Errno {
	switch {
	case !isMarket(m):
		return api.ErrArg
	case !isExchange(gets, len(m.Wishes)):
		return api.ErrRange
	}
	return api.OK
}
