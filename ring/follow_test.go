package ring_test

import (
	"math"
	"slices"
	"testing"

	"jigworks/api"
	"jigworks/ring"
)

type seeds uint64

// upTo returns a number from 0 to n - 1.
func (s *seeds) upTo(n int) int {
	*s = *s*6364136223846793005 + 1442695040888963407
	return int(uint64(*s)>>33) % n
}

// order returns the numbers from 0 to n - 1 in some order.
func (s *seeds) order(n int) []int {
	l := make([]int, n)
	for i := range l {
		j := s.upTo(i + 1)
		l[i] = l[j]
		l[j] = i
	}
	return l
}

// market returns a market of so many persons, in which few or many puzzles are wished, for much or for little: then many exchanges give as much.
func (s *seeds) market(persons int) api.Market {
	m := alike(persons, 0)
	often, worth := 1+s.upTo(5), []int{1, 2, 5, 30, 1000}[s.upTo(5)]
	for i := range persons {
		for j := range persons {
			if i != j && s.upTo(5) < often {
				m.Wishes[i][j] = 1 + s.upTo(worth)
			}
		}
	}
	return m
}

// fair returns an exchange of a market in which each person gets a puzzle that it wishes, or keeps its own.
func (s *seeds) fair(m api.Market) []int {
	var all [][]int
	exchanges(len(m.Wishes), func(gets []int) {
		if slowRefuser(m, gets) < 0 {
			all = append(all, gets)
		}
	})
	return all[s.upTo(len(all))]
}

// some yields markets of up to so many persons, so often each number.
func (s *seeds) some(persons, many int, yield func(m api.Market)) {
	for n := range persons + 1 {
		for range many {
			yield(s.market(n))
		}
	}
}

// best returns how much is given, with rings of at most so many persons; with 8, by Best.
func best(t *testing.T, m api.Market, long int) int {
	t.Helper()
	_, worth, e := ring.Best(m)
	if long < 8 {
		_, worth, e = ring.Short(m, long)
	}
	if e != api.OK {
		t.Fatalf("%v, with %d: error %d", m, long, e)
	}
	return worth
}

// P9.3, P9.6: the best exchanges, against all exchanges.
func TestAllExchanges(t *testing.T) {
	var s seeds
	ties, shorter := 0, 0
	s.some(7, 40, func(m api.Market) {
		gets, worth, e := ring.Best(m)
		want, most := slowBest(m, 7)
		if !slices.Equal(gets, want) || worth != most || e != api.OK {
			t.Errorf("%v: Best = %v, %d, error %d, not %v, %d", m, gets, worth, e, want, most)
		}
		for long := 2; long < 8; long++ {
			gets, worth, e := ring.Short(m, long)
			short, less := slowBest(m, long)
			if !slices.Equal(gets, short) || worth != less || e != api.OK {
				t.Errorf("%v: Short with %d = %v, %d, error %d, not %v, %d", m, long, gets, worth, e, short, less)
			}
			if less < most {
				shorter++
			} else if !slices.Equal(short, want) {
				ties++
			}
		}
	})
	if ties < 20 || shorter < 100 {
		t.Errorf("%d short exchanges give as much as the best ones and are others, %d give less", ties, shorter)
	}
}

// P9.1, P9.2, P9.5: all exchanges of markets of up to 5 persons, at some prices.
func TestEachExchange(t *testing.T) {
	var s seeds
	content, refused := 0, 0
	s.some(5, 60, func(m api.Market) {
		exchanges(len(m.Wishes), func(gets []int) {
			prices := make([]int, len(gets))
			for i := range prices {
				prices[i] = s.upTo(4)
			}
			first := slowRefuser(m, gets)
			worth, person, e := ring.Gives(m, gets)
			who, of, f := ring.Envies(m, gets, prices)
			if first >= 0 {
				refused++
				if worth != 0 || person != first || e != api.ErrRefuse || who != first || of != 0 || f != api.ErrRefuse {
					t.Errorf("%v, %v: Gives = %d, %d, error %d, Envies = %d, %d, error %d", m, gets, worth, person, e, who, of, f)
				}
				return
			}
			if worth != slowWorth(m, gets) || person != 0 || e != api.OK {
				t.Errorf("%v, %v: Gives = %d, %d, error %d", m, gets, worth, person, e)
			}
			want := api.OK
			a, b := slowEnvy(m, gets, prices)
			if a < 0 {
				content++
				a, b, want = 0, 0, api.ErrNone
			}
			if who != a || of != b || f != want {
				t.Errorf("%v, %v, %v: Envies = %d, %d, error %d", m, gets, prices, who, of, f)
			}
		})
	})
	if min(content, refused) < 100 {
		t.Errorf("with %d exchanges all are content, %d are refused", content, refused)
	}
}

// P9.2: the rings of all exchanges of up to 7 persons.
func TestAllRings(t *testing.T) {
	for n := range 8 {
		exchanges(n, func(gets []int) {
			rings, e := ring.Rings(gets)
			if e != api.OK {
				t.Fatalf("Rings of %v have the error %d", gets, e)
			}
			again := make([]int, n)
			for i := range again {
				again[i] = i
			}
			last := -1
			for _, r := range rings {
				if len(r) < 2 || slices.Min(r) != r[0] || r[0] <= last {
					t.Fatalf("Rings of %v = %v", gets, rings)
				}
				last = r[0]
				for i, person := range r {
					again[person] = r[(i+1)%len(r)]
				}
			}
			if !slices.Equal(again, gets) || len(slices.Concat(rings...)) != movers(gets) {
				t.Fatalf("Rings of %v = %v", gets, rings)
			}
		})
	}
}

// movers returns how many persons do not keep their own.
func movers(gets []int) int {
	many := 0
	for i, j := range gets {
		if i != j {
			many++
		}
	}
	return many
}

// P9.4: the least prices, against what a second puzzle would give.
func TestLeastPrices(t *testing.T) {
	var s seeds
	raised := 0
	s.some(7, 40, func(m api.Market) {
		prices, e := ring.Prices(m)
		if want := slowPrices(m); !slices.Equal(prices, want) || e != api.OK {
			t.Errorf("%v: Prices = %v, error %d, not %v", m, prices, e, want)
		}
		for _, n := range prices {
			if n > 0 {
				raised++
			}
		}
	})
	if raised < 200 {
		t.Errorf("only %d prices are above 0", raised)
	}
}

// P9.4: the least prices, against all prices of small markets.
func TestAllPrices(t *testing.T) {
	var s seeds
	s.some(3, 60, func(m api.Market) {
		for _, row := range m.Wishes {
			for j := range row {
				row[j] = min(row[j], 3)
			}
		}
		gets, _, _ := ring.Best(m)
		found, e := ring.Prices(m)
		if e != api.OK {
			t.Fatalf("%v: Prices have the error %d", m, e)
		}
		reached := false
		for l := range 512 {
			prices := []int{l % 8, l / 8 % 8, l / 64}[:len(gets)]
			if a, _ := slowEnvy(m, gets, prices); a >= 0 {
				continue
			}
			for i := range prices {
				if prices[i] < found[i] {
					t.Errorf("%v: Prices = %v, but all are content at %v", m, found, prices)
				}
			}
			reached = reached || slices.Equal(prices, found)
		}
		if !reached {
			t.Errorf("%v: not all are content at %v", m, found)
		}
	})
}

// P9.8: what prices prove. No fair exchange gives more, none leaves more at the prices, and nobody has less than with its own puzzle.
func TestProof(t *testing.T) {
	var s seeds
	s.some(6, 30, func(m api.Market) {
		gets, worth, _ := ring.Best(m)
		prices, _ := ring.Prices(m)
		if n, person, e := ring.Gives(m, gets); n != worth || person != 0 || e != api.OK {
			t.Errorf("%v: Best = %v, %d, but Gives = %d, %d, error %d", m, gets, worth, n, person, e)
		}
		if a, b, e := ring.Envies(m, gets, prices); a != 0 || b != 0 || e != api.ErrNone {
			t.Errorf("%v: Best = %v, Prices = %v, Envies = %d, %d, error %d", m, gets, prices, a, b, e)
		}
		for i, j := range gets {
			if left(m, prices, i, j) < -prices[i] || i != j && m.Wishes[i][j] < 1 {
				t.Errorf("%v: Best = %v, Prices = %v, but the person %d has less than before", m, gets, prices, i)
			}
		}
		exchanges(len(gets), func(other []int) {
			if slowRefuser(m, other) >= 0 {
				return
			}
			if n, _, e := ring.Gives(m, other); n > worth || e != api.OK {
				t.Errorf("%v: Best = %v, %d, but %v gives %d, error %d", m, gets, worth, other, n, e)
			}
			if all(m, prices, other) > all(m, prices, gets) {
				t.Errorf("%v: Best = %v, Prices = %v, but %v leaves more", m, gets, prices, other)
			}
		})
	})
}

// left returns what a person has of a puzzle, less its price.
func left(m api.Market, prices []int, person, puzzle int) int {
	if person == puzzle {
		return -prices[person]
	}
	return m.Wishes[person][puzzle] - prices[puzzle]
}

// all returns what all persons have together.
func all(m api.Market, prices, gets []int) int {
	sum := 0
	for i, j := range gets {
		sum += left(m, prices, i, j)
	}
	return sum
}

// P9.8: with one wish more, or a greater one, no less is given, and with longer rings; rings of all give as much as Best.
func TestMoreWishes(t *testing.T) {
	var s seeds
	more := 0
	s.some(7, 40, func(m api.Market) {
		n := len(m.Wishes)
		other := copyMarket(m)
		if n > 1 {
			i := s.upTo(n)
			j := (i + 1 + s.upTo(n-1)) % n
			other.Wishes[i][j] += s.upTo(1001 - m.Wishes[i][j])
		}
		for long := 2; long <= 8; long++ {
			a, b := best(t, m, long), best(t, other, long)
			if b < a || long > 2 && best(t, m, long-1) > a {
				t.Errorf("%v gives %d, %v gives %d, with %d", m, a, other, b, long)
			}
			if b > a {
				more++
			}
		}
		gets, worth, _ := ring.Best(m)
		for long := max(2, n); long < 8; long++ {
			if short, most, e := ring.Short(m, long); !slices.Equal(short, gets) || most != worth || e != api.OK {
				t.Errorf("%v: Best = %v, %d, but Short with %d = %v, %d, error %d", m, gets, worth, long, short, most, e)
			}
		}
	})
	if more < 200 {
		t.Errorf("only %d times more is given", more)
	}
}

// P9.8: with one person less no more is given.
func TestOnePersonLess(t *testing.T) {
	var s seeds
	less := 0
	s.some(7, 30, func(m api.Market) {
		for gone := range m.Wishes {
			var other api.Market
			for i, row := range m.Wishes {
				if i != gone {
					other.Wishes = append(other.Wishes, slices.Delete(slices.Clone(row), gone, gone+1))
				}
			}
			for long := 2; long <= 8; long++ {
				a, b := best(t, m, long), best(t, other, long)
				if b > a {
					t.Errorf("%v gives %d, but %v gives %d, with %d", m, a, other, b, long)
				}
				if b < a {
					less++
				}
			}
		}
	})
	if less < 200 {
		t.Errorf("only %d times less is given", less)
	}
}

// P9.8, P9: if persons are numbered otherwise, as much is given, prices go with them, and so do rings.
func TestOtherNumbers(t *testing.T) {
	var s seeds
	s.some(7, 40, func(m api.Market) {
		to := s.order(len(m.Wishes))
		other := alike(len(to), 0)
		for i, row := range m.Wishes {
			for j, worth := range row {
				other.Wishes[to[i]][to[j]] = worth
			}
		}
		for long := 2; long <= 8; long++ {
			if a, b := best(t, m, long), best(t, other, long); a != b {
				t.Errorf("%v gives %d, but %v gives %d, with %d", m, a, other, b, long)
			}
		}
		prices, _ := ring.Prices(m)
		others, _ := ring.Prices(other)
		for i := range prices {
			if others[to[i]] != prices[i] {
				t.Errorf("%v: Prices = %v, but %v: %v", m, prices, other, others)
			}
		}
		gets := s.fair(m)
		moved := make([]int, len(to))
		for i, j := range gets {
			moved[to[i]] = to[j]
		}
		a, _, e := ring.Gives(m, gets)
		b, _, f := ring.Gives(other, moved)
		if a != b || e != f {
			t.Errorf("%v: Gives = %d, error %d, but %v: %d, error %d", m, a, e, other, b, f)
		}
		_, _, e = ring.Envies(m, gets, prices)
		_, _, f = ring.Envies(other, moved, others)
		if e != f {
			t.Errorf("%v: Envies has the error %d, but %v: %d", m, e, other, f)
		}
	})
}

// P9.8: markets that have nothing to do with one another give together what each of them gives, at the same prices.
func TestTwoMarkets(t *testing.T) {
	var s seeds
	for range 200 {
		first, second := s.market(s.upTo(5)), s.market(s.upTo(4))
		n := len(first.Wishes)
		both := alike(n+len(second.Wishes), 0)
		for i, row := range first.Wishes {
			copy(both.Wishes[i], row)
		}
		for i, row := range second.Wishes {
			copy(both.Wishes[n+i][n:], row)
		}
		for long := 2; long <= 8; long++ {
			if a, b, sum := best(t, first, long), best(t, second, long), best(t, both, long); a+b != sum {
				t.Errorf("%v gives %d, %v gives %d, both %d, with %d", first, a, second, b, sum, long)
			}
		}
		a, _ := ring.Prices(first)
		b, _ := ring.Prices(second)
		if prices, _ := ring.Prices(both); !slices.Equal(prices, slices.Concat(a, b)) {
			t.Errorf("%v: Prices = %v, %v: %v, both %v", first, a, second, b, prices)
		}
		x, _, _ := ring.Best(first)
		y, _, _ := ring.Best(second)
		for i := range y {
			y[i] += n
		}
		if gets, _, _ := ring.Best(both); !slices.Equal(gets, slices.Concat(x, y)) {
			t.Errorf("%v: Best = %v, %v: %v, both %v", first, x, second, y, gets)
		}
	}
}

// P9.7, R4: arguments stay as they are, and results share no memory.
func TestMemory(t *testing.T) {
	var s seeds
	s.some(7, 10, func(m api.Market) {
		was, had := copyMarket(m), ask(m)
		if a := ask(m); !a.equal(had) {
			t.Errorf("%v: %v, then %v", m, had, a)
		}
		gets, prices := s.fair(m), make([]int, len(m.Wishes))
		same := slices.Clone(gets)
		ring.Gives(m, gets)
		ring.Envies(m, gets, prices)
		rings, _ := ring.Rings(gets)
		if !sameMarket(m, was) || !slices.Equal(gets, same) || slices.ContainsFunc(prices, func(n int) bool { return n != 0 }) {
			t.Errorf("%v was %v, %v was %v, %v was 0", m, was, gets, same, prices)
		}
		all := [][]int{gets, prices}
		for _, f := range []func() []int{
			func() []int { l, _, _ := ring.Best(m); return l }, func() []int { l, _ := ring.Prices(m); return l }, func() []int { l, _, _ := ring.Short(m, 2); return l }, func() []int { l, _, _ := ring.Short(m, 7); return l },
		} {
			all = append(all, f(), f())
		}
		all = append(append(all, rings...), m.Wishes...)
		checkApart(t, all)
	})
}

// checkApart checks that no two lists share memory, also behind their ends.
func checkApart(t *testing.T, all [][]int) {
	t.Helper()
	for i, l := range all {
		for j := range l[:cap(l)] {
			l[:cap(l)][j] = -1 - i
		}
	}
	for i, l := range all {
		for _, n := range l {
			if n != -1-i {
				t.Fatalf("the lists %d and %d share memory", i, -1-n)
			}
		}
	}
}

// R3: no list and an empty one are the same.
func TestNoLists(t *testing.T) {
	for _, m := range []api.Market{{}, {Wishes: [][]int{}}} {
		if a := ask(m); !a.equal(ask(market(""))) {
			t.Errorf("%v: %v", m, a)
		}
		for _, l := range [][]int{nil, {}} {
			worth, person, e := ring.Gives(m, l)
			a, b, f := ring.Envies(m, l, l)
			rings, g := ring.Rings(l)
			if worth != 0 || person != 0 || e != api.OK || a != 0 || b != 0 || f != api.ErrNone || len(rings) != 0 || g != api.OK {
				t.Errorf("Gives = %d, %d, error %d, Envies = %d, %d, error %d, Rings = %v, error %d", worth, person, e, a, b, f, rings, g)
			}
		}
	}
}

// P1, R2: any arguments.
func TestAnyArguments(t *testing.T) {
	var s seeds
	odd := []int{0, 1, 2, 3, 4, 6, 7, 8, 1000, 1001, 100000, 100001, 64, -1, -2, math.MaxInt, math.MinInt, math.MaxInt32}
	good, bad := 0, 0
	s.some(8, 150, func(m api.Market) {
		n := len(m.Wishes)
		if n > 0 {
			spoil(&s, m, odd)
		}
		gets, prices, long := s.order(n), make([]int, n), odd[s.upTo(len(odd))]
		for i := range prices {
			prices[i] = s.upTo(100001)
		}
		spoilList(&s, gets, odd)
		spoilList(&s, prices, odd)
		want := api.ErrArg
		if isMarket(m) {
			good++
			want = api.OK
		} else {
			bad++
		}
		checkList(t, m, gets, prices, want)
		list, worth, e := ring.Short(m, long)
		if want == api.OK && (long < 2 || long > 7) {
			want = api.ErrRange
		}
		if e != want || e != api.OK && (len(list) != 0 || worth != 0) {
			t.Errorf("%v: Short with %d = %v, %d, error %d", m, long, list, worth, e)
		}
	})
	if min(good, bad) < 300 {
		t.Errorf("%d markets are valid, %d are not", good, bad)
	}
}

// spoil changes a market, or leaves it as it is.
func spoil(s *seeds, m api.Market, odd []int) {
	i := s.upTo(len(m.Wishes))
	switch s.upTo(4) {
	case 0:
		m.Wishes[i][s.upTo(len(m.Wishes))] = odd[s.upTo(len(odd))]
	case 1:
		m.Wishes[i] = make([]int, s.upTo(9))
	}
}

// spoilList changes a list, or leaves it as it is.
func spoilList(s *seeds, l []int, odd []int) {
	if len(l) > 0 && s.upTo(3) == 0 {
		l[s.upTo(len(l))] = odd[s.upTo(len(odd))]
	}
}

// checkList checks what is said of a market, an exchange and prices, each of which may be wrong.
func checkList(t *testing.T, m api.Market, gets, prices []int, want api.Errno) {
	t.Helper()
	best, worth, e := ring.Best(m)
	least, f := ring.Prices(m)
	if e != want || f != want || e != api.OK && (len(best) != 0 || worth != 0 || len(least) != 0) {
		t.Errorf("%v: Best = %v, %d, error %d, Prices = %v, error %d", m, best, worth, e, least, f)
	}
	sorted := slices.Clone(gets)
	slices.Sort(sorted)
	inOrder := true
	for i, n := range sorted {
		inOrder = inOrder && n == i
	}
	if rings, e := ring.Rings(gets); (e == api.OK) != (inOrder && len(gets) < 8) || e != api.OK && (len(rings) != 0 || e != api.ErrRange) {
		t.Errorf("Rings of %v = %v, error %d", gets, rings, e)
	}
	first := -1
	if want == api.OK && !inOrder {
		want = api.ErrRange
	} else if want == api.OK {
		first = slowRefuser(m, gets)
	}
	given, person, e := ring.Gives(m, gets)
	who, of, f := ring.Envies(m, gets, prices)
	if (e != want || given != 0 || person != 0) && want != api.OK {
		t.Errorf("%v, %v: Gives = %d, %d, error %d", m, gets, given, person, e)
	}
	if want == api.OK && slices.ContainsFunc(prices, func(n int) bool { return n < 0 || n > 100000 }) {
		want = api.ErrRange
	} else if first >= 0 {
		want = api.ErrRefuse
	}
	if want != api.OK && (f != want || who != max(0, first) && f == api.ErrRefuse || f != api.ErrRefuse && who != 0 || of != 0) {
		t.Errorf("%v, %v, %v: Envies = %d, %d, error %d", m, gets, prices, who, of, f)
	}
}
