package scan

import (
	"iter"
	"slices"

	"jigworks/api"
	"jigworks/fit"
)

// alien is the seat of a scan that is from another box.
var alien = api.Seat{Cell: api.Alien}

// way is the seats that scans which hang together take, by scan.
type way map[int]api.Seat

// group is all ways in which scans that hang together can be seated, by the seat of the first one, which says those of all others. In the first way all are aliens.
type group []way

// pile is a pile that is searched.
type pile struct {
	api.Pile
	seats  [][]api.Seat // at which each scan can be
	groups []group      // by their first scans
	open   map[state]bool
	said   [api.MaxScans][]api.Seat // the seats that each scan has in some truth
	full   []set                    // for each truth the set of the cells that have a scan, each such set once
}

// searched returns a pile that has been searched, or its error.
func searched(x api.Pile) (*pile, api.Errno) {
	p := &pile{Pile: x, open: map[state]bool{}}
	if !p.isValid() {
		return nil, api.ErrArg
	}
	if !every(p.mayFit, p.Hang...) {
		return nil, api.ErrRefuse
	}
	for _, s := range p.Scans {
		p.seats = append(p.seats, drawing(p.Drawing).seats(s))
	}
	p.hangAll()
	if !p.search() {
		return nil, api.ErrState
	}
	return p, api.OK
}

// isValid returns whether a pile is valid.
func (p *pile) isValid() bool {
	d := drawing(p.Drawing)
	return d.isValid() && len(p.Scans) <= api.MaxScans && every(d.isPiece, p.Scans...) &&
		len(p.Hang) <= api.MaxHang && every(p.isJoin, p.Hang...) &&
		isFrom(0, api.MaxGone, p.Lost) && isFrom(0, api.MaxForeign, p.Foreign)
}

// isFrom returns whether a number is from lo to hi.
func isFrom(lo, hi, n int) bool { return lo <= n && n <= hi }

// isJoin returns whether a join is one of two different scans.
func (p *pile) isJoin(j api.Join) bool {
	last := len(p.Scans) - 1
	return isFrom(0, last, j.A) && isFrom(0, last, j.B) && j.A != j.B && isFrom(above, left, j.I) && isFrom(above, left, j.J)
}

// mayFit returns whether the sides of a join fit always or perhaps.
func (p *pile) mayFit(j api.Join) bool {
	fits, _ := fit.Fit(p.Drawing.Play, p.Scans[j.A].Edges[j.I], p.Scans[j.B].Edges[j.J])
	return fits != api.FitNever
}

// hangAll finds the groups.
func (p *pile) hangAll() {
	var done set
	for scan := range p.Scans {
		if done.has(scan) {
			continue
		}
		var ways group
		for _, s := range gather([]api.Seat{alien}, p.seats[scan]...) {
			if w, ok := p.hang(scan, s); ok {
				ways = append(ways, w)
			}
		}
		for other := range ways[0] {
			done = done.with(other)
		}
		p.groups = append(p.groups, ways)
	}
}

// hang returns the seats that all scans must take which hang together with one that takes a seat, and whether they can.
func (p *pile) hang(scan int, seat api.Seat) (way, bool) {
	taken := way{}
	var take func(scan int, seat api.Seat) bool
	take = func(scan int, seat api.Seat) bool {
		if had, ok := taken[scan]; ok {
			return had == seat
		}
		if seat != alien && !slices.Contains(p.seats[scan], seat) {
			return false
		}
		taken[scan] = seat
		for j := range p.joinsOf(scan) {
			next, ok := p.beside(seat, j)
			if !ok || !take(j.B, next) {
				return false
			}
		}
		return true
	}
	ok := take(scan, seat)
	return taken, ok
}

// joinsOf yields the joins of a scan, with it as the scan A.
func (p *pile) joinsOf(scan int) iter.Seq[api.Join] {
	return func(yield func(api.Join) bool) {
		for _, j := range p.Hang {
			if j.B == scan {
				j = api.Join{A: j.B, I: j.J, B: j.A, J: j.I}
			}
			if j.A == scan && !yield(j) {
				return
			}
		}
	}
}

// beside returns the seat of the scan B of a join whose scan A takes a seat, and whether there is a cell for it.
func (p *pile) beside(seat api.Seat, j api.Join) (api.Seat, bool) {
	if seat == alien {
		return alien, true
	}
	side := (j.I + seat.Turn) % sides
	cell, ok := drawing(p.Drawing).behind(seat.Cell, side)
	return api.Seat{Cell: cell, Turn: (opposite(side) - j.J + sides) % sides}, ok
}
