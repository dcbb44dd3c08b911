package anew

import (
	"math"

	"jigworks/api"
	"jigworks/fit"
)

// choice is a form for each side of the place, what they cost together, and the seats at which a piece with these sides could lie elsewhere.
type choice struct {
	with [sides]int
	cost int
	open seats
}

// and returns a choice with an option for one more side.
func (c choice) and(to int, o option) choice {
	c.with[to] = o.form
	c.cost += o.cost
	c.open &= o.open
	return c
}

// cheapest returns the first of the choices that cost least.
func cheapest(least choice, more ...choice) choice {
	for _, c := range more {
		if c.cost < least.cost {
			least = c
		}
	}
	return least
}

// option is a form that a side of the place can have, and the seats at which this side of a made piece could lie elsewhere.
type option struct {
	form, cost int
	open       seats
}

// areForms returns whether forms are valid.
func (b *board) areForms(forms []api.Form) bool {
	for _, f := range forms {
		if !areSides(b.Puzzle.Play, f.Edge) || f.Edge.Kind == api.EdgeFlat || f.Cost < 0 || f.Cost > api.MaxFormCost {
			return false
		}
	}
	return true
}

// options returns for each side of the place the forms that always fit there, in their order, and no form on the rim.
func (b *board) options(forms []api.Form) [sides][]option {
	var edges []api.Edge
	for _, f := range forms {
		edges = append(edges, f.Edge)
	}
	fitting := map[side][]int{}
	var l [sides][]option
	for to := range l {
		switch around := b.behind(b.place, to).(type) {
		case rim:
			l[to] = []option{{form: api.NoForm, open: b.open(to, api.Edge{})}}
		case side:
			if _, ok := fitting[around]; !ok {
				fitting[around], _, _ = fit.Matches(b.Puzzle.Play, around.edge(), edges)
			}
			for _, form := range fitting[around] {
				l[to] = append(l[to], option{form, forms[form].Cost, b.open(to, edges[form])})
			}
		}
	}
	return l
}

// cheapest returns the first one of the cheapest choices whose piece could lie nowhere else, and whether there is one.
func (b *board) cheapest(forms []api.Form) (choice, bool) {
	options := b.options(forms)
	best := choice{cost: math.MaxInt}
	// try gives a form to a side, and to all sides behind it.
	var try func(to int, c choice)
	try = func(to int, c choice) {
		if to == sides {
			best = cheapest(best, c)
			return
		}
	forms:
		for _, o := range options[to] {
			next := c.and(to, o)
			switch {
			case next.cost >= best.cost:
				continue forms
			case to == left && next.open != 0:
				continue forms
			}
			try(to+1, next)
		}
	}
	try(above, choice{open: ^seats(0)})
	return best, best.cost < math.MaxInt
}
