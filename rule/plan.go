package rule

import "jigworks/api"

// course is the sets of blades that are bent from some stint on, and what that costs.
type course struct {
	cost int
	sets []int
}

// cheapest returns the sets of the good plan that costs least, of several the first one. Some plan must be good.
func (m mounted) cheapest(l []api.Stint) course {
	if len(l) == 0 {
		return course{}
	}
	// What is best from a stint on depends on nothing but how long each blade has run before it.
	best := make([]map[runs]course, len(l))
	for i := range best {
		best[i] = map[runs]course{}
	}
	var from func(i int, m mounted) course
	from = func(i int, m mounted) course {
		if i == len(l) {
			return course{}
		}
		if c, ok := best[i][m.ran]; ok {
			return c
		}
		var courses []course
	sets:
		for set := range allBlades(m.Die) + 1 {
			n := m.bent(set)
			for blade := range n.Blades {
				if n.fails(blade, l[i]) {
					continue sets
				}
			}
			later := from(i+1, n.run(l[i]))
			courses = append(courses, course{m.price(set) + later.cost, append([]int{set}, later.sets...)})
		}
		// The set of all blades always does, and sets come in their order.
		c := least(func(c course) int { return c.cost }, courses[0], courses[1:]...)
		best[i][m.ran] = c
		return c
	}
	return from(1, m.run(l[0]))
}

// least returns the value whose number is least, of several the first one.
func least[T any](number func(T) int, first T, others ...T) T {
	for _, x := range others {
		if number(x) < number(first) {
			first = x
		}
	}
	return first
}
