package ring_test

import (
	"math"
	"slices"
	"strconv"
	"strings"

	"jigworks/api"
	"jigworks/ring"
)

// list returns the numbers of a text.
func list(text string) []int {
	var l []int
	for _, w := range strings.Fields(text) {
		n, _ := strconv.Atoi(w)
		l = append(l, n)
	}
	return l
}

// market returns a market: for each person, after a `|`, what each puzzle is worth to it. Without any text it has no persons.
func market(text string) api.Market {
	var m api.Market
	if text == "" {
		return m
	}
	for _, row := range strings.Split(text, "|") {
		m.Wishes = append(m.Wishes, list(row))
	}
	return m
}

// told returns a market of so many persons, of which some wish something: `1-2:5` says that the puzzle 2 is worth 5 to the person 1.
func told(persons int, text string) api.Market {
	m := alike(persons, 0)
	for _, w := range strings.Fields(text) {
		person, wish, _ := strings.Cut(w, "-")
		puzzle, worth, _ := strings.Cut(wish, ":")
		m.Wishes[list(person)[0]][list(puzzle)[0]] = list(worth)[0]
	}
	return m
}

// alike returns a market in which all puzzles are worth as much to all others.
func alike(persons, worth int) api.Market {
	var m api.Market
	for i := range persons {
		row := make([]int, persons)
		for j := range row {
			if j != i {
				row[j] = worth
			}
		}
		m.Wishes = append(m.Wishes, row)
	}
	return m
}

// example is the market of the chapter's examples.
func example() api.Market { return told(4, "0-1:5 0-2:3 1-0:2 1-2:4 2-0:6 2-3:1 3-1:7") }

// circle is a market of 7 persons, of whom each wishes the puzzle of the next one only, for 1000.
func circle() api.Market {
	return told(7, "0-1:1000 1-2:1000 2-3:1000 3-4:1000 4-5:1000 5-6:1000 6-0:1000")
}

// chain is a market of 7 persons, of whom each but the last wishes the puzzle of the next one only, for 1000; back is one in which each but the first wishes that of the one before.
func chain() api.Market { return told(7, "0-1:1000 1-2:1000 2-3:1000 3-4:1000 4-5:1000 5-6:1000") }

func back() api.Market { return told(7, "1-0:1000 2-1:1000 3-2:1000 4-3:1000 5-4:1000 6-5:1000") }

func copyMarket(m api.Market) api.Market {
	var other api.Market
	for _, row := range m.Wishes {
		other.Wishes = append(other.Wishes, slices.Clone(row))
	}
	return other
}

func sameMarket(a, b api.Market) bool { return slices.EqualFunc(a.Wishes, b.Wishes, slices.Equal) }

func sameRings(a, b [][]int) bool { return slices.EqualFunc(a, b, slices.Equal) }

// exchanges calls a function with each exchange of so many persons, in lexicographic order.
func exchanges(persons int, found func(gets []int)) {
	var gets []int
	var fill func()
	fill = func() {
		if len(gets) == persons {
			found(slices.Clone(gets))
			return
		}
		for j := range persons {
			if !slices.Contains(gets, j) {
				gets = append(gets, j)
				fill()
				gets = gets[:len(gets)-1]
			}
		}
	}
	fill()
}

// slowRefuser returns the first person that gets what it does not wish, or -1.
func slowRefuser(m api.Market, gets []int) int {
	for i, j := range gets {
		if i != j && m.Wishes[i][j] < 1 {
			return i
		}
	}
	return -1
}

func slowWorth(m api.Market, gets []int) int {
	worth := 0
	for i, j := range gets {
		if i != j {
			worth += m.Wishes[i][j]
		}
	}
	return worth
}

// longest returns how many persons the longest ring of an exchange has; 1 if there is none.
func longest(gets []int) int {
	long := 1
	for i := range gets {
		many := 1
		for j := gets[i]; j != i; j = gets[j] {
			many++
		}
		long = max(long, many)
	}
	return long
}

// slowBest goes through all exchanges whose rings have at most so many persons.
func slowBest(m api.Market, long int) ([]int, int) {
	var best []int
	worth := -1
	exchanges(len(m.Wishes), func(gets []int) {
		if slowRefuser(m, gets) < 0 && longest(gets) <= long && slowWorth(m, gets) > worth {
			best, worth = gets, slowWorth(m, gets)
		}
	})
	return best, worth
}

// slowEnvy returns the first person that is not content, and the first puzzle that would be better for it; -1 and -1 if there is none.
func slowEnvy(m api.Market, gets, prices []int) (int, int) {
	for i, got := range gets {
		has := -prices[i]
		if got != i {
			has = m.Wishes[i][got] - prices[got]
		}
		for j := range gets {
			switch {
			case j == i && -prices[i] > has:
				return i, j
			case j != i && m.Wishes[i][j] > 0 && m.Wishes[i][j]-prices[j] > has:
				return i, j
			}
		}
	}
	return -1, -1
}

// slowPrices finds how much more would be given if there were a second one of each puzzle, one after the other: that is the least price of it, as prices prove what is best.
func slowPrices(m api.Market) []int {
	var prices []int
	n := len(m.Wishes)
	_, worth := slowBest(m, 7)
	for j := range n {
		prices = append(prices, mostOf(m, 0, 1<<n-1, j)-worth)
	}
	return prices
}

// mostOf returns the most that the persons from one on can get together of a set of puzzles, and of one puzzle more; a number below 0 if they cannot get as many as they are.
func mostOf(m api.Market, person, puzzles, spare int) int {
	if person == len(m.Wishes) {
		return 0
	}
	most := math.MinInt / 2
	for j := range m.Wishes {
		if j != person && m.Wishes[person][j] < 1 {
			continue
		}
		if puzzles>>j&1 == 1 {
			most = max(most, m.Wishes[person][j]+mostOf(m, person+1, puzzles-1<<j, spare))
		} else if j == spare {
			most = max(most, m.Wishes[person][j]+mostOf(m, person+1, puzzles, -1))
		}
	}
	return most
}

// answers is all that is said of a market: the best exchange, the prices, what both are good for, and the best exchanges of short rings.
type answers struct {
	lists  [][]int
	worths []int
	rings  [][]int
	errors []api.Errno
}

func (a answers) equal(b answers) bool {
	return sameRings(a.lists, b.lists) && slices.Equal(a.worths, b.worths) && sameRings(a.rings, b.rings) && slices.Equal(a.errors, b.errors)
}

func ask(m api.Market) answers {
	var a answers
	gets, worth, e := ring.Best(m)
	prices, f := ring.Prices(m)
	rings, g := ring.Rings(gets)
	gives, person, h := ring.Gives(m, gets)
	not, of, i := ring.Envies(m, gets, prices)
	a.lists, a.rings = [][]int{gets, prices}, rings
	a.worths, a.errors = []int{worth, gives, person, not, of}, []api.Errno{e, f, g, h, i}
	for long := 2; long < 8; long++ {
		gets, worth, e := ring.Short(m, long)
		a.lists, a.worths, a.errors = append(a.lists, gets), append(a.worths, worth), append(a.errors, e)
	}
	return a
}

// isMarket returns whether a market is valid, as the chapter says it.
func isMarket(m api.Market) bool {
	n := len(m.Wishes)
	for i, row := range m.Wishes {
		if len(row) != n {
			return false
		}
		for j, worth := range row {
			if worth < 0 || worth > 1000 || i == j && worth > 0 {
				return false
			}
		}
	}
	return n <= 7
}

// badMarkets returns markets that are not valid, each of them by one thing.
func badMarkets() []api.Market {
	l := []api.Market{alike(8, 0), alike(8, 1), alike(9, 0), {Wishes: make([][]int, 8)}, {Wishes: make([][]int, 1<<20)}, {Wishes: [][]int{nil}}, {Wishes: [][]int{{0, 0}}}, {Wishes: [][]int{{1}}}, {Wishes: [][]int{{-1}}}, {Wishes: [][]int{nil, nil}}}
	add := func(change func(m *api.Market)) {
		m := example()
		change(&m)
		l = append(l, m)
	}
	for i := range 4 {
		for j := range 4 {
			for _, n := range []int{-1, 1001, math.MaxInt, math.MinInt} {
				add(func(m *api.Market) { m.Wishes[i][j] = n })
			}
		}
		for _, n := range []int{1, 5, 1000} {
			add(func(m *api.Market) { m.Wishes[i][i] = n })
		}
		add(func(m *api.Market) { m.Wishes[i] = m.Wishes[i][:3] })
		add(func(m *api.Market) { m.Wishes[i] = append(m.Wishes[i], 0) })
		add(func(m *api.Market) { m.Wishes[i] = nil })
		add(func(m *api.Market) { m.Wishes[i] = make([]int, 1<<20) })
		add(func(m *api.Market) { m.Wishes = slices.Delete(m.Wishes, i, i+1) })
	}
	add(func(m *api.Market) { m.Wishes = append(m.Wishes, make([]int, 4)) })
	add(func(m *api.Market) { m.Wishes = append(m.Wishes, make([]int, 5)) })
	return l
}

// badExchanges returns lists that are no exchanges of 4 persons.
func badExchanges() [][]int {
	l := [][]int{nil, {}, {0}, {0, 1, 2}, {1, 2, 0}, {0, 1, 2, 3, 4}, {1, 2, 0, 3, 3}, {0, 1, 2, 3, 4, 5, 6}, make([]int, 1<<20), {0, 0, 0, 0}, {1, 2, 0, 0}, {3, 2, 1, 3}, {1, 1, 2, 3}, {0, 0, 2, 3}, {1, 2, 3, 4}, {4, 1, 2, 3}, {-1, 1, 2, 3}, {0, 1, 2, -4}, {0, 1, 2, 67}, {-64, 1, 2, 3}}
	for i := range 4 {
		for _, n := range []int{-1, 4, 64, math.MaxInt, math.MinInt} {
			gets := list("1 2 0 3")
			gets[i] = n
			l = append(l, gets)
		}
	}
	return l
}

// badPrices returns lists that are no prices of 4 persons.
func badPrices() [][]int {
	l := [][]int{nil, {}, {3, 7, 5}, {3, 7, 5, 0, 0}, make([]int, 1<<20)}
	for i := range 4 {
		for _, n := range []int{-1, 100001, math.MaxInt, math.MinInt} {
			prices := list("3 7 5 0")
			prices[i] = n
			l = append(l, prices)
		}
	}
	return l
}

// badLongs returns numbers that are not from 2 to 7.
func badLongs() []int { return []int{1, 0, -1, -2, 8, 9, 64, math.MaxInt, math.MinInt} }
