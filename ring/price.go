package ring

// demand is why a price is raised: whose price it is, and how great it must be at the prices so far.
type demand struct {
	of    int
	least func(prices []int) int
}

// demands returns what must be so that all persons are content with an exchange.
func (w wishes) demands(gets []int) []demand {
	var l []demand
	for person, puzzle := range gets {
		for other := range w.choices(person) {
			more := w[person][other] - w[person][puzzle]
			l = append(l, demand{other, func(prices []int) int { return prices[puzzle] + more }})
		}
	}
	return l
}

// leastPrices returns the least prices at which all are content with an exchange. This ends only if no exchange gives more: otherwise prices would raise each other for ever.
func (w wishes) leastPrices(gets []int) []int {
	prices := make([]int, len(gets))
	demands := w.demands(gets)
	for raise(prices, demands) {
	}
	return prices
}

// raise raises prices to what is demanded, and returns whether it raised any.
func raise(prices []int, demands []demand) bool {
	raised := false
	for _, d := range demands {
		if least := d.least(prices); least > prices[d.of] {
			prices[d.of] = least
			raised = true
		}
	}
	return raised
}
