package lend

import (
	"iter"
	"slices"

	"jigworks/api"
)

// books are a tale, and what follows from its looks for each piece: when it can have been lost, and by whom.
type books struct {
	api.Tale
	windows  []window
	suspects []set
}

// closed returns books in which no look was entered.
func closed(t api.Tale) *books {
	b := &books{Tale: t}
	for range t.Pieces {
		b.windows = append(b.windows, widest())
	}
	return b
}

// all returns all pieces.
func (b *books) all() set { return 1<<b.Pieces - 1 }

// open enters all looks at some pieces, one after the other, as far as none of them refutes those before it.
func (b *books) open(pieces set) {
	for i, look := range b.Looks {
		for piece := range pieces.each() {
			w := &b.windows[piece]
			if set(look.There).has(piece) {
				*w = w.after(look.Hour)
			}
			if set(look.Gone).has(piece) {
				*w = w.before(look.Hour)
			}
			if w.cannotBe() {
				panic(refutation(i))
			}
		}
	}
	for _, w := range b.windows {
		b.suspects = append(b.suspects, gathered(b.losers(w)))
	}
}

// losers yields who can have lost a piece in a window: persons, the library, nobody.
func (b *books) losers(w window) iter.Seq[int] {
	return func(yield func(int) bool) {
		for who := range api.NotLost + 1 {
			if b.canLose(who, w) && !yield(who) {
				return
			}
		}
	}
}

func (b *books) canLose(who int, w window) bool {
	switch who {
	case api.NotLost:
		return !w.gone
	case api.Library:
		return b.lent(w.hours) < w.many()
	}
	return slices.ContainsFunc(b.Loans, func(l api.Loan) bool { return l.Person == who && hoursOf(l).meets(w.hours) })
}

// lent returns in how many of some hours somebody had the puzzle.
func (b *books) lent(h hours) int {
	many := 0
	for _, l := range b.Loans {
		many += hoursOf(l).shared(h).many()
	}
	return many
}
