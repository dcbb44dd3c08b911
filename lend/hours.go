package lend

import (
	"slices"

	"jigworks/api"
)

// moment is one hour.
type moment int

// isIn returns whether an hour is one of a loan.
func (m moment) isIn(l api.Loan) bool { return l.From <= int(m) && int(m) < l.To }

// holder returns who has the puzzle in an hour.
func holder(l []api.Loan, m moment) int {
	i := slices.IndexFunc(l, m.isIn)
	if i < 0 {
		return api.NoOne
	}
	return l[i].Person
}

// hours are those from one to before another one. No hours are always written as the zero value.
type hours struct{ from, to int }

func hoursOf(l api.Loan) hours { return hours{l.From, l.To} }

// shared returns the hours that are in both.
func (h hours) shared(with hours) hours {
	s := hours{max(h.from, with.from), min(h.to, with.to)}
	if s.from >= s.to {
		return hours{}
	}
	return s
}

// meets returns whether some hour is in both.
func (h hours) meets(with hours) bool { return h.shared(with) != hours{} }

func (h hours) many() int { return h.to - h.from }

// window is when a piece can have been lost, and whether it surely was.
type window struct {
	hours
	gone bool
}

func widest() window { return window{hours: hours{0, api.MaxHour}} }

// after returns what is left of a window if the piece was there at an hour, before returns it if the piece was gone.
func (w window) after(hour int) window {
	w.hours = w.shared(hours{hour, api.MaxHour})
	return w
}

func (w window) before(hour int) window {
	return window{w.shared(hours{0, hour}), true}
}

// cannotBe returns whether a piece was surely lost, and in no hour.
func (w window) cannotBe() bool { return w == window{gone: true} }

// span returns the hours of a window from the first to the last one.
func (w window) span() api.Span {
	if w.hours == (hours{}) {
		return api.Span{}
	}
	return api.Span{Lo: w.from, Hi: w.to - 1}
}
