package rule

import (
	"iter"
	"math/bits"

	"jigworks/api"
)

// runs is for how many thousands of strokes each blade has run since it was bent.
type runs [api.MaxBlades]int

// mounted is a die on the press.
type mounted struct {
	api.Die
	off []off
	ran runs
}

// mount returns a die on the press with all blades freshly bent, or the error of the die or of its stints.
func mount(d api.Die, l []api.Stint) (mounted, api.Errno) {
	if !isDie(d) {
		return mounted{}, api.ErrArg
	}
	if !areStints(l) {
		return mounted{}, api.ErrRange
	}
	m := mounted{Die: d}
	for _, b := range d.Blades {
		m.off = append(m.off, offOf(b))
	}
	return m, api.OK
}

// bladesOf yields the blades of a set.
func bladesOf(set int) iter.Seq[int] {
	return func(yield func(int) bool) {
		for rest := set; rest != 0; rest &= rest - 1 {
			if !yield(bits.TrailingZeros(uint(rest))) {
				return
			}
		}
	}
}

// price returns what it costs to bend a set of blades before a stint.
func (m mounted) price(set int) int {
	if set == 0 {
		return 0
	}
	cost := m.Stop
	for range bladesOf(set) {
		cost += m.Bend
	}
	return cost
}

// bent returns the die when a set of blades has been bent anew.
func (m mounted) bent(set int) mounted {
	for blade := range bladesOf(set) {
		m.ran[blade] = 0
	}
	return m
}

// run returns the die after a stint.
func (m mounted) run(s api.Stint) mounted {
	for blade := range m.Blades {
		m.ran[blade] += s.Strokes
	}
	return m
}

// fails returns whether a blade can be off by too much in a stint that comes now. As no blade gets better by wear, it can then be so at its end.
func (m mounted) fails(blade int, s api.Stint) bool {
	return m.off[blade].greatest(m.ran[blade]+s.Strokes) > m.Bound+s.More
}

// failing returns the first blade that can be off by too much in a stint that comes now, and whether there is one.
func (m mounted) failing(s api.Stint) (blade int, ok bool) {
	for blade := range m.Blades {
		if m.fails(blade, s) {
			return blade, true
		}
	}
	return 0, false
}

// bears returns whether some plan is good: if one is, so is the one that bends all blades before each stint.
func (m mounted) bears(l []api.Stint) bool {
	fresh := m.bent(allBlades(m.Die))
	for _, s := range l {
		if _, ok := fresh.failing(s); ok {
			return false
		}
	}
	return true
}

// rows returns the rows of stints that cannot be run through, one after the other, and a blade for each. Some plan must be good.
func (m mounted) rows(l []api.Stint) (rows []api.Span, blades []int) {
	from := 0
	for i, s := range l {
		if blade, ok := m.failing(s); ok {
			rows = append(rows, api.Span{Lo: from, Hi: i})
			blades = append(blades, blade)
			m = m.bent(allBlades(m.Die))
			from = i
		}
		m = m.run(s)
	}
	return rows, blades
}
