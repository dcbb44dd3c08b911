package lend_test

import (
	"iter"
	"math"
	"slices"
	"strconv"
	"strings"

	"jigworks/api"
	"jigworks/lend"
)

func span(lo, hi int) api.Span { return api.Span{Lo: lo, Hi: hi} }

// hour returns the hour that a word stands for: `M` is MaxHour, `L` the last hour before it.
func hour(word string) int {
	switch word {
	case "M":
		return 1048576
	case "L":
		return 1048575
	}
	n, _ := strconv.Atoi(word)
	return n
}

// tale returns a tale. What persons admit is numbers, `-` if they are silent; loans are `person.from-to`; looks are `hour:pieces`, each piece a letter, `a` for the piece 0: a small letter if it was there, a great one if it was gone.
func tale(pieces int, admits, loans, looks string) api.Tale {
	t := api.Tale{Pieces: pieces}
	for _, w := range strings.Fields(admits) {
		n, e := strconv.Atoi(w)
		if e != nil {
			n = -1
		}
		t.Admits = append(t.Admits, n)
	}
	for _, w := range strings.Fields(loans) {
		person, hours, _ := strings.Cut(w, ".")
		from, to, _ := strings.Cut(hours, "-")
		t.Loans = append(t.Loans, api.Loan{Person: hour(person), From: hour(from), To: hour(to)})
	}
	for _, w := range strings.Fields(looks) {
		at, letters, _ := strings.Cut(w, ":")
		s := api.Sight{Hour: hour(at)}
		for _, c := range letters {
			if c >= 'a' {
				s.There |= 1 << (c - 'a')
			} else {
				s.Gone |= 1 << (c - 'A')
			}
		}
		t.Looks = append(t.Looks, s)
	}
	return t
}

// set returns a set of those who can have lost a piece: digits are persons, `L` is the library, `N` nobody.
func set(who string) int {
	s := 0
	for _, c := range who {
		switch c {
		case 'L':
			s |= 1 << 6
		case 'N':
			s |= 1 << 7
		default:
			s |= 1 << (c - '0')
		}
	}
	return s
}

// example is the tale of the chapter's examples, with what is admitted and with further looks.
func example(admits, looks string) api.Tale {
	return tale(4, admits, "0.10-20 1.30-40 2.40-60", "10:abcd 25:Abc 60:BC "+looks)
}

// full is a tale of 16 pieces, 6 persons, 12 loans and 20 looks: the loan i is from 10*i to 10*i+5, of the person i modulo 6; the first 16 pieces were each there at the start of a loan, and gone at its end.
func full() api.Tale {
	t := tale(16, "- - - - - -", "", "")
	for i := range 12 {
		t.Loans = append(t.Loans, api.Loan{Person: i % 6, From: 10 * i, To: 10*i + 5})
		t.Looks = append(t.Looks, api.Sight{Hour: 10*i + 5, There: 1<<16 - 1<<(i+1), Gone: 1<<(i+1) - 1})
	}
	for i := range 8 {
		t.Looks = append(t.Looks, api.Sight{Hour: 10*i + 10, There: 1 << 15})
	}
	return t
}

// answers is all that is said of a tale: of each hour of a list, of each piece, and of each person.
type answers struct {
	holders []int
	windows []api.Span
	gone    []bool
	who     []int
	lost    []api.Span
	clash   int
	errors  []api.Errno
}

func (a answers) equal(b answers) bool {
	return slices.Equal(a.holders, b.holders) && slices.Equal(a.windows, b.windows) && slices.Equal(a.gone, b.gone) && slices.Equal(a.who, b.who) &&
		slices.Equal(a.lost, b.lost) && a.clash == b.clash && slices.Equal(a.errors, b.errors)
}

// unordered returns all of it that does not depend on the order of looks.
func (a answers) unordered() answers {
	a.clash = 0
	return a
}

func ask(t api.Tale, hours []int) answers {
	var a answers
	for _, h := range hours {
		n, e := lend.Holder(t, h)
		a.holders, a.errors = append(a.holders, n), append(a.errors, e)
	}
	for i := range t.Pieces {
		w, gone, e := lend.Window(t, i)
		n, f := lend.Who(t, i)
		a.windows, a.gone, a.who, a.errors = append(a.windows, w), append(a.gone, gone), append(a.who, n), append(a.errors, e, f)
	}
	for i := range t.Admits {
		x, e := lend.Lost(t, i)
		a.lost, a.errors = append(a.lost, x), append(a.errors, e)
	}
	n, e := lend.Clash(t)
	a.clash, a.errors = n, append(a.errors, e)
	return a
}

// turns returns all hours in which something can differ from the hour before.
func turns(t api.Tale) []int {
	l := []int{0, 1048575}
	for _, x := range t.Loans {
		l = append(l, x.From-1, x.From, x.To-1, x.To)
	}
	for _, x := range t.Looks {
		l = append(l, x.Hour-1, x.Hour)
	}
	l = slices.DeleteFunc(l, func(h int) bool { return h < 0 || h > 1048575 })
	slices.Sort(l)
	return slices.Compact(l)
}

// slowHolder looks at all loans.
func slowHolder(t api.Tale, hour int) int {
	who := -1
	for _, l := range t.Loans {
		if hour >= l.From && hour <= l.To-1 {
			who = l.Person
		}
	}
	return who
}

// kept is in the place of an hour: the piece was not lost.
const kept = 1 << 30

// fitsLooks returns whether it fits some looks at a piece that it was lost in an hour.
func fitsLooks(looks []api.Sight, piece, hour int) bool {
	for _, s := range looks {
		lost := hour < s.Hour
		if s.There>>piece&1 == 1 && lost || s.Gone>>piece&1 == 1 && !lost {
			return false
		}
	}
	return true
}

// slowHours returns the hours of which it fits some looks that a piece was lost in them, of those in which something can differ from the one before, and kept.
func slowHours(t api.Tale, looks []api.Sight, piece int) []int {
	return slices.DeleteFunc(append(turns(t), kept), func(h int) bool { return !fitsLooks(looks, piece, h) })
}

// loser returns who lost a piece in an hour, as in a set by bits.
func loser(t api.Tale, hour int) int {
	if hour == kept {
		return 7
	}
	if n := slowHolder(t, hour); n >= 0 {
		return n
	}
	return 6
}

// counts is how many pieces each person lost, and the library, and how many were not lost.
type counts [8]int

func fitsAdmits(t api.Tale, n counts) bool {
	for person, admits := range t.Admits {
		if admits >= 0 && n[person] != admits {
			return false
		}
	}
	return true
}

// slowCounts returns all that can have been lost if some looks are true, found piece by piece. If a piece is from 0 on, it was lost by that loser.
func slowCounts(t api.Tale, looks []api.Sight, piece, by int) map[counts]bool {
	found := map[counts]bool{{}: true}
	for i := range t.Pieces {
		var losers []int
		for _, h := range slowHours(t, looks, i) {
			if n := loser(t, h); i != piece || n == by {
				losers = append(losers, n)
			}
		}
		slices.Sort(losers)
		next := map[counts]bool{}
		for n := range found {
			for _, who := range slices.Compact(slices.Clone(losers)) {
				m := n
				m[who]++
				next[m] = true
			}
		}
		found = next
	}
	return found
}

// slowAsk returns all that must be said of a tale.
func slowAsk(t api.Tale, hours []int) answers {
	var a answers
	for _, h := range hours {
		a.holders, a.errors = append(a.holders, slowHolder(t, h)), append(a.errors, api.OK)
	}
	all := fitting(t, slowCounts(t, t.Looks, -1, 0))
	for i := range t.Pieces {
		w, gone, e := slowWindow(t, i)
		n, f := 0, api.ErrState
		for by := range 8 {
			if len(all) > 0 && len(fitting(t, slowCounts(t, t.Looks, i, by))) > 0 {
				n, f = n|1<<by, api.OK
			}
		}
		a.windows, a.gone, a.who, a.errors = append(a.windows, w), append(a.gone, gone), append(a.who, n), append(a.errors, e, f)
	}
	for i := range t.Admits {
		x, e := api.Span{}, api.ErrState
		for k, n := range all {
			if k == 0 {
				x, e = span(n[i], n[i]), api.OK
			}
			x = span(min(x.Lo, n[i]), max(x.Hi, n[i]))
		}
		a.lost, a.errors = append(a.lost, x), append(a.errors, e)
	}
	n, e := slowClash(t, len(all) > 0)
	a.clash, a.errors = n, append(a.errors, e)
	return a
}

func fitting(t api.Tale, all map[counts]bool) []counts {
	var l []counts
	for n := range all {
		if fitsAdmits(t, n) {
			l = append(l, n)
		}
	}
	return l
}

func slowWindow(t api.Tale, piece int) (api.Span, bool, api.Errno) {
	l := slowHours(t, t.Looks, piece)
	switch i := slices.Index(l, kept); {
	case len(l) == 0:
		return api.Span{}, false, api.ErrState
	case i == 0:
		return api.Span{}, false, api.OK
	case i < 0:
		return span(l[0], l[len(l)-1]), true, api.OK
	}
	return span(l[0], l[len(l)-2]), false, api.OK
}

func slowClash(t api.Tale, fits bool) (int, api.Errno) {
	if fits {
		return 0, api.ErrNone
	}
	for i := range t.Looks {
		for piece := range t.Pieces {
			if len(slowHours(t, t.Looks[:i+1], piece)) == 0 {
				return i, api.OK
			}
		}
	}
	return len(t.Looks), api.OK
}

// orders yields a list in each of its orders.
func orders[T any](l []T) iter.Seq[[]T] {
	return func(yield func([]T) bool) {
		if len(l) == 0 {
			yield(nil)
			return
		}
		for i, first := range l {
			for others := range orders(slices.Delete(slices.Clone(l), i, i+1)) {
				if !yield(append([]T{first}, others...)) {
					return
				}
			}
		}
	}
}

func copyTale(t api.Tale) api.Tale {
	t.Loans, t.Looks, t.Admits = slices.Clone(t.Loans), slices.Clone(t.Looks), slices.Clone(t.Admits)
	return t
}

func sameTale(a, b api.Tale) bool {
	return a.Pieces == b.Pieces && slices.Equal(a.Loans, b.Loans) && slices.Equal(a.Looks, b.Looks) && slices.Equal(a.Admits, b.Admits)
}

// isTale returns whether a tale is valid, as the chapter says it, loan by loan and hour by hour of its turns.
func isTale(t api.Tale) bool {
	if t.Pieces < 1 || t.Pieces > 16 || len(t.Admits) < 1 || len(t.Admits) > 6 || len(t.Loans) > 12 || len(t.Looks) > 20 {
		return false
	}
	for _, n := range t.Admits {
		if n < -1 || n > 16 {
			return false
		}
	}
	for _, l := range t.Loans {
		if l.Person < 0 || l.Person >= len(t.Admits) || l.From < 0 || l.From > 1048575 || l.To > 1048576 || l.From >= l.To {
			return false
		}
	}
	for _, s := range t.Looks {
		if s.Hour < 0 || s.Hour > 1048576 || s.There < 0 || s.Gone < 0 || s.There >= 1<<t.Pieces || s.Gone >= 1<<t.Pieces || s.There&s.Gone > 0 {
			return false
		}
	}
	for _, h := range turns(t) {
		holders := 0
		for _, l := range t.Loans {
			if h >= l.From && h < l.To {
				holders++
			}
		}
		if holders > 1 {
			return false
		}
	}
	return true
}

// badTales returns tales that are not valid, each of them by one thing.
func badTales() []api.Tale {
	var l []api.Tale
	add := func(change func(t *api.Tale)) {
		t := example("- 1 -", "")
		change(&t)
		l = append(l, t)
	}
	for _, n := range []int{0, -1, 3, 17, 64, math.MaxInt, math.MinInt} {
		add(func(t *api.Tale) { t.Pieces = n })
	}
	add(func(t *api.Tale) { t.Admits = nil })
	add(func(t *api.Tale) { t.Admits = []int{-1, -1} })
	add(func(t *api.Tale) { t.Admits = make([]int, 7) })
	add(func(t *api.Tale) { t.Loans = make([]api.Loan, 1<<20) })
	add(func(t *api.Tale) { t.Loans = eachHour(13) })
	add(func(t *api.Tale) { t.Looks = make([]api.Sight, 21) })
	for i := range 3 {
		for _, n := range []int{-2, 17, math.MaxInt, math.MinInt} {
			add(func(t *api.Tale) { t.Admits[i] = n })
		}
		for _, n := range []int{-1, 3, 6, math.MaxInt, math.MinInt} {
			add(func(t *api.Tale) { t.Loans[i].Person = n })
		}
		for _, n := range []int{-1, loan(i).To, loan(i).To + 1, 1048576, math.MaxInt, math.MinInt} {
			add(func(t *api.Tale) { t.Loans[i].From = n })
		}
		for _, n := range []int{loan(i).From, loan(i).From - 1, 0, -1, 1048577, math.MaxInt, math.MinInt} {
			add(func(t *api.Tale) { t.Loans[i].To = n })
		}
		for _, n := range []int{-1, 1048577, math.MaxInt, math.MinInt} {
			add(func(t *api.Tale) { t.Looks[i].Hour = n })
		}
		for _, n := range []int{-1, 16, 1 << 20, math.MaxInt, math.MinInt, -16} {
			add(func(t *api.Tale) { t.Looks[i].There = n })
			add(func(t *api.Tale) { t.Looks[i].Gone = n })
		}
		add(func(t *api.Tale) { t.Looks[i] = api.Sight{Hour: 5, There: 4, Gone: 4} })
		add(func(t *api.Tale) { t.Looks[i] = api.Sight{Hour: 5, There: 6, Gone: 3} })
	}
	return append(l, badLoans()...)
}

// loan returns a loan of the example.
func loan(i int) api.Loan { return example("- - -", "").Loans[i] }

// eachHour returns some loans of one hour, one after the other.
func eachHour(many int) []api.Loan {
	var l []api.Loan
	for i := range many {
		l = append(l, api.Loan{From: i, To: i + 1})
	}
	return l
}

// badLoans returns tales of which two loans have an hour in common.
func badLoans() []api.Tale {
	var l []api.Tale
	for _, loans := range []string{
		"0.10-20 1.19-30", "1.19-30 0.10-20", "0.10-20 0.10-20", "0.10-20 1.15-16", "1.15-16 0.10-20", "0.10-20 1.10-11", "0.10-20 1.5-11", "0.0-M 1.L-M", "1.0-1 0.0-M", "0.5-6 1.5-6",
		"0.10-20 1.20-30 1.29-40", "1.29-40 0.10-20 1.20-30", "0.10-20 1.30-40 0.50-60 1.0-11", "0.10-20 1.30-40 0.50-60 1.5-55",
	} {
		l = append(l, tale(4, "- -", loans, ""))
	}
	return l
}

// badNumbers returns numbers that are not from 0 to n - 1.
func badNumbers(n int) []int {
	return []int{-1, -2, n, n + 1, 1 << 21, math.MaxInt, math.MinInt, math.MinInt + 1}
}
