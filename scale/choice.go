package scale

import "jigworks/api"

// firstSlip returns the first list that is not complete and could pass all tests, and whether there is one.
func firstSlip(b api.Box, tests []api.Test) (first list, ok bool) {
search:
	for has := range lists(b) {
		if has.isComplete() {
			continue
		}
		for _, t := range tests {
			if !couldPass(b, t, has) {
				continue search
			}
		}
		first, ok = has, true
		break search
	}
	return first, ok
}

// passing returns, for each list that is not complete, the set of the tests that it could pass.
func passing(b api.Box, tests []api.Test) map[list]int {
	could := map[list]int{}
	for has := range lists(b) {
		if has.isComplete() {
			continue
		}
		set := 0
		for i, t := range tests {
			if couldPass(b, t, has) {
				set |= 1 << i
			}
		}
		could[has] = set
	}
	return could
}

// offer is a test, or a set of tests, and what it costs.
type offer struct{ is, cost int }

// cheapest returns the first one of the offers that cost least, and whether there is one.
func cheapest(l ...offer) (best offer, ok bool) {
	for i, o := range l {
		if i == 0 || o.cost < best.cost {
			best, ok = o, true
		}
	}
	return best, ok
}

// setsThatCatch returns the sets of tests that no box passes unless it is complete, by their numbers.
func setsThatCatch(b api.Box, tests []api.Test) []offer {
	could := passing(b, tests)
	var offers []offer
	for set := range 1 << len(tests) {
		if catchesAll(could, set) {
			offers = append(offers, offer{is: set, cost: costOf(tests, set)})
		}
	}
	return offers
}

// catchesAll returns whether none of some lists could pass all tests of a set.
func catchesAll(could map[list]int, set int) bool {
	for _, passes := range could {
		if set&^passes == 0 {
			return false
		}
	}
	return true
}

// costOf returns what a set of tests costs.
func costOf(tests []api.Test, set int) int {
	cost := 0
	for i, t := range tests {
		if set>>i&1 == 1 {
			cost += t.Cost
		}
	}
	return cost
}
