package press_test

import (
	"iter"
	"math"
	"slices"

	"jigworks/api"
)

func span(lo, hi int) api.Span { return api.Span{Lo: lo, Hi: hi} }

// shifts returns shifts, each from both ends of its X and of its Y.
func shifts(l ...int) (out []api.Shift) {
	for i := 0; i < len(l); i += 4 {
		out = append(out, api.Shift{X: span(l[i], l[i+1]), Y: span(l[i+2], l[i+3])})
	}
	return out
}

// jobs returns jobs, each from both ends of its Print and of its Lay, and its Due.
func jobs(l ...int) (out []api.Job) {
	for i := 0; i < len(l); i += 5 {
		out = append(out, api.Job{Print: span(l[i], l[i+1]), Lay: span(l[i+2], l[i+3]), Due: l[i+4]})
	}
	return out
}

// just returns jobs whose times are known, each from its Print and its Lay; none is ever due.
func just(l ...int) (out []api.Job) {
	for i := 0; i < len(l); i += 2 {
		out = append(out, jobs(l[i], l[i], l[i+1], l[i+1], api.MaxHour)...)
	}
	return out
}

// The shifts, the spoilage and the jobs of the chapter's examples.
func exampleShifts() []api.Shift { return shifts(-2, 3, 0, 0, 1, 4, 0, 0, 0, 0, 0, 0) }

func exampleSpoilage() api.Span { return span(20, 50) }

func exampleJobs() []api.Job { return jobs(3, 4, 2, 3, 9, 1, 2, 4, 6, 8, 5, 5, 1, 1, 14) }

// alike returns n jobs with the same times.
func alike(n int) []api.Job { return slices.Repeat(jobs(1, 2, 0, 3, 5), n) }

// inTurn returns the order 0, 1, 2 and so on.
func inTurn(n int) []int {
	order := make([]int, n)
	for i := range order {
		order[i] = i
	}
	return order
}

// badSpans returns spans that are not valid, or not within lo to hi.
func badSpans(lo, hi int) []api.Span {
	return []api.Span{
		span(lo-1, lo), span(lo-1, hi), span(lo, hi+1), span(hi, hi+1), span(lo-2, lo-1), span(hi+1, hi+1), span(lo+1, lo), span(hi, hi-1), span(hi, lo),
		span(math.MinInt, lo), span(lo, math.MaxInt), span(math.MinInt, math.MaxInt), span(math.MaxInt, math.MinInt), span(math.MinInt, math.MinInt), span(math.MaxInt, math.MaxInt),
	}
}

// badShifts returns shifts that are not valid.
func badShifts() [][]api.Shift {
	good := shifts(-1, 1, -2, 2)
	l := [][]api.Shift{nil, {}, slices.Repeat(good, api.MaxColours+1), slices.Repeat(good, 1000)}
	for _, s := range badSpans(-api.MaxShift, api.MaxShift) {
		for _, bad := range []api.Shift{{X: s, Y: span(0, 0)}, {X: span(0, 0), Y: s}} {
			l = append(l, []api.Shift{bad}, append(slices.Repeat(good, 7), bad), append([]api.Shift{bad}, good...))
		}
	}
	return l
}

// badJobs returns jobs that are not valid.
func badJobs() [][]api.Job {
	l := [][]api.Job{alike(api.MaxJobs + 1), alike(1000)}
	add := func(bad api.Job) {
		l = append(l, []api.Job{bad}, append(alike(6), bad), append([]api.Job{bad}, alike(3)...))
	}
	for _, s := range badSpans(0, api.MaxTime) {
		add(api.Job{Print: s, Lay: span(1, 1)})
		add(api.Job{Print: span(1, 1), Lay: s})
	}
	for _, due := range []int{-1, api.MaxHour + 1, math.MinInt, math.MaxInt} {
		add(api.Job{Due: due})
	}
	return l
}

// badOrders returns lists that are no orders of n jobs.
func badOrders(n int) [][]int {
	l := [][]int{append(inTurn(n), n), append(inTurn(n), 0), append([]int{-1}, inTurn(n)...), make([]int, n+1), make([]int, 1000)}
	for i := range n {
		l = append(l, slices.Delete(inTurn(n), i, i+1))
		for _, job := range []int{-1, n, n + 1, (i + 1) % n, 32, 64, 64 + i, i - 64, math.MinInt, math.MaxInt, 1<<32 + i} {
			order := inTurn(n)
			order[i] = job
			if job != i {
				l = append(l, order)
			}
		}
	}
	return l
}

// seeds makes numbers that look like chance, always the same ones.
type seeds uint64

// upTo returns a number from 0 to n - 1.
func (s *seeds) upTo(n int) int {
	*s = *s*6364136223846793005 + 1442695040888963407
	return int(uint64(*s)>>33) % n
}

// span returns a span within lo to hi that is at most as wide as it is said.
func (s *seeds) span(lo, hi, wide int) api.Span {
	from := lo + s.upTo(hi-lo+1)
	return span(from, min(hi, from+s.upTo(wide+1)))
}

// narrowed returns a span within another one.
func (s *seeds) narrowed(x api.Span) api.Span { return s.span(x.Lo, x.Hi, x.Hi-x.Lo) }

// shifts returns shifts of so many colours.
func (s *seeds) shifts(colours, wide int) (l []api.Shift) {
	for range colours {
		l = append(l, api.Shift{X: s.span(-6, 4, wide), Y: s.span(-3, 3, wide)})
	}
	return l
}

// jobs returns so many jobs, some of which are often late, and some of which often take no time.
func (s *seeds) jobs(many, wide int) (l []api.Job) {
	for range many {
		l = append(l, api.Job{Print: s.span(0, 6, wide), Lay: s.span(0, 6, wide), Due: s.upTo(6 + 5*many)})
	}
	return l
}

// order returns some order.
func (s *seeds) order(many int) []int {
	order := inTurn(many)
	for i := range order {
		j := s.upTo(i + 1)
		order[i], order[j] = order[j], order[i]
	}
	return order
}

// choices yields each choice of one integer of each span.
func choices(l []api.Span) iter.Seq[[]int] {
	return func(yield func([]int) bool) {
		choice := make([]int, len(l))
		for i, s := range l {
			choice[i] = s.Lo
		}
		for yield(choice) {
			i := len(l) - 1
			for i >= 0 && choice[i] == l[i].Hi {
				choice[i] = l[i].Lo
				i--
			}
			if i < 0 {
				return
			}
			choice[i]++
		}
	}
}

// sides returns the spans of shifts to the side, and upward.
func sides(l []api.Shift) (x, y []api.Span) {
	for _, s := range l {
		x, y = append(x, s.X), append(y, s.Y)
	}
	return x, y
}

// reach returns how far the lowest and the highest number of all spans lie apart, be they of one span or of two.
func reach(l []api.Span) int {
	lo, hi := l[0].Lo, l[0].Hi
	for _, s := range l {
		lo, hi = min(lo, s.Lo), max(hi, s.Hi)
	}
	return hi - lo
}

// slowFringe goes through all truths.
func slowFringe(l []api.Span) api.Span {
	all := span(math.MaxInt, 0)
	for truth := range choices(l) {
		n := slices.Max(truth) - slices.Min(truth)
		all = span(min(all.Lo, n), max(all.Hi, n))
	}
	return all
}

// slowGood counts up to the least number of spoilt sheets, and to the greatest one.
func slowGood(spoil api.Span, sheets int) api.Span {
	fewest := 0
	for 1000*(fewest+1) <= sheets*spoil.Lo {
		fewest++
	}
	most := fewest
	for 1000*most < sheets*spoil.Hi {
		most++
	}
	return span(sheets-most, sheets-fewest)
}

// truths yields the times of jobs in each truth, first those of Print.
func truths(l []api.Job) iter.Seq2[[]int, []int] {
	return func(yield func(print, lay []int) bool) {
		var spans []api.Span
		for _, j := range l {
			spans = append(spans, j.Print)
		}
		for _, j := range l {
			spans = append(spans, j.Lay)
		}
		for truth := range choices(spans) {
			if !yield(truth[:len(l)], truth[len(l):]) {
				return
			}
		}
	}
}

// worst returns the times of jobs that take as long as they can.
func worst(l []api.Job) (print, lay []int) {
	for _, j := range l {
		print, lay = append(print, j.Print.Hi), append(lay, j.Lay.Hi)
	}
	return print, lay
}

// path returns how long it takes to print the jobs of an order up to one place, and to lay those from there on.
func path(print, lay, order []int, place int) int {
	n := 0
	for _, job := range order[:place+1] {
		n += print[job]
	}
	for _, job := range order[place:] {
		n += lay[job]
	}
	return n
}

// endsIn returns when jobs end in one truth, hour by hour.
func endsIn(print, lay, order []int) []int {
	ends := make([]int, len(order))
	var printed, laid int       // how many jobs of the order
	var printedFor, laidFor int // for how many hours the next ones have been in their machines
	for hour := 0; laid < len(order); hour++ {
		for printed < len(order) && printedFor == print[order[printed]] {
			printed, printedFor = printed+1, 0
		}
		for laid < printed && laidFor == lay[order[laid]] {
			ends[order[laid]] = hour
			laid, laidFor = laid+1, 0
		}
		if printed < len(order) {
			printedFor++
		}
		if laid < printed {
			laidFor++
		}
	}
	return ends
}

// doneIn returns when all is done in one truth.
func doneIn(print, lay, order []int) int { return slices.Max(append(endsIn(print, lay, order), 0)) }

// slowRun goes through all truths.
func slowRun(l []api.Job, order []int) (ends []api.Span, surely, can int) {
	ends = slices.Repeat([]api.Span{span(math.MaxInt, 0)}, len(l))
	surely = 1<<len(l) - 1
	for print, lay := range truths(l) {
		for job, n := range endsIn(print, lay, order) {
			ends[job] = span(min(ends[job].Lo, n), max(ends[job].Hi, n))
			if n > l[job].Due {
				can |= 1 << job
			} else {
				surely &^= 1 << job
			}
		}
	}
	return ends, surely, can
}

// allOrders returns all orders of n jobs, in lexicographic order: those of fewer jobs behind each first one.
func allOrders(n int) [][]int {
	if n == 0 {
		return [][]int{nil}
	}
	var all [][]int
	for first := range n {
		for _, rest := range allOrders(n - 1) {
			order := []int{first}
			for _, job := range rest {
				if job >= first {
					job++
				}
				order = append(order, job)
			}
			all = append(all, order)
		}
	}
	return all
}

// slowBest goes through all orders, and says how many of them are done as early as the best one.
func slowBest(l []api.Job) (best []int, hour, many int) {
	print, lay := worst(l)
	hour = math.MaxInt
	for _, order := range allOrders(len(l)) {
		n := doneIn(print, lay, order)
		if n < hour {
			best, hour, many = order, n, 0
		}
		if n == hour {
			many++
		}
	}
	return best, hour, many
}

// slowWhy finds the first path that takes until all is done, and says how many of them do.
func slowWhy(l []api.Job, order []int) (job, hour, many int) {
	print, lay := worst(l)
	hour = doneIn(print, lay, order)
	for place := len(order) - 1; place >= 0; place-- {
		if path(print, lay, order, place) == hour {
			job = order[place]
			many++
		}
	}
	return job, hour, many
}
