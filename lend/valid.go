package lend

import (
	"slices"

	"jigworks/api"
)

func isTale(t api.Tale) bool {
	return t.Pieces >= 1 && t.Pieces <= api.MaxParts && areAdmits(t.Admits) && areLoans(t.Loans, len(t.Admits)) && areLooks(t.Looks, t.Pieces)
}

func areAdmits(l []int) bool {
	return len(l) >= 1 && len(l) <= api.MaxReaders &&
		!slices.ContainsFunc(l, func(n int) bool { return n != api.Silent && (n < 0 || n > api.MaxParts) })
}

// areLoans returns whether loans are valid, each of them by itself, and with those after it.
func areLoans(l []api.Loan, persons int) bool {
	if len(l) > api.MaxLoans {
		return false
	}
	for i, x := range l {
		if !isLoan(x, persons) || slices.ContainsFunc(l[i+1:], func(y api.Loan) bool { return hoursOf(x).meets(hoursOf(y)) }) {
			return false
		}
	}
	return true
}

func isLoan(l api.Loan, persons int) bool {
	return l.Person >= 0 && l.Person < persons && l.From >= 0 && l.From < l.To && l.To <= api.MaxHour
}

func areLooks(l []api.Sight, pieces int) bool {
	return len(l) <= api.MaxSights && !slices.ContainsFunc(l, func(s api.Sight) bool { return !isLook(s, pieces) })
}

func isLook(s api.Sight, pieces int) bool {
	return s.Hour >= 0 && s.Hour <= api.MaxHour && isSet(s.There, pieces) && isSet(s.Gone, pieces) && s.There&s.Gone == 0
}

// isSet returns whether a number is a set of pieces by bits.
func isSet(n, pieces int) bool { return n >= 0 && n < 1<<pieces }
