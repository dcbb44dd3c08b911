package press

import "jigworks/api"

// end is one end of what is known from a bound to another one.
type end interface {
	of(s api.Span) int
}

type least struct{}

type greatest struct{}

func (least) of(s api.Span) int { return s.Lo }

func (greatest) of(s api.Span) int { return s.Hi }

// times is for how many hours a job is printed, and laid on board.
type times struct{ print, lay int }

// timesOf returns the times of jobs, all of them at the same end.
func timesOf(l []api.Job, at end) []times {
	var all []times
	for _, j := range l {
		all = append(all, times{at.of(j.Print), at.of(j.Lay)})
	}
	return all
}

// machine is a press, which is free from some hour on.
type machine struct{ free int }

// work returns when a job that comes at some hour has been worked on for some hours.
func (m *machine) work(from, hours int) int {
	m.free = max(m.free, from) + hours
	return m.free
}

func (m *machine) print(from int, t times) int { return m.work(from, t.print) }

func (m *machine) lay(from int, t times) int { return m.work(from, t.lay) }

// line is both machines, in the order in which each job goes over them: when it comes, and its times, give when it leaves.
type line [2]func(from int, t times) int

func newLine() line {
	var printing, laminating machine
	return line{printing.print, laminating.lay}
}

// put puts the next job on the line, and returns when it ends.
func (l line) put(t times) int {
	hour := 0
	for _, pass := range l {
		hour = pass(hour, t)
	}
	return hour
}

// endsOf returns when each job ends.
func endsOf(l []times, order []int) []int {
	ends := make([]int, len(l))
	works := newLine()
	for _, job := range order {
		ends[job] = works.put(l[job])
	}
	return ends
}

// spansOf returns when each job ends, at the earliest and at the latest. No job ends earlier if some job takes longer.
func spansOf(l []api.Job, order []int) []api.Span {
	early := endsOf(timesOf(l, least{}), order)
	late := endsOf(timesOf(l, greatest{}), order)
	var spans []api.Span
	for job := range l {
		spans = append(spans, api.Span{Lo: early[job], Hi: late[job]})
	}
	return spans
}
