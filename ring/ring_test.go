package ring_test

import (
	"slices"
	"testing"

	"jigworks/api"
	"jigworks/ring"
)

// P9.1.
func TestGives(t *testing.T) {
	pairs := told(7, "0-6:1 6-0:1000 1-5:20 5-1:300 2-4:5 4-2:7 3-0:9")
	for i, c := range []struct {
		m     api.Market
		gets  string
		worth int
	}{
		{example(), "2 0 3 1", 13}, {example(), "1 0 3 2", -4}, {example(), "0 1 2 3", 0}, {example(), "1 2 0 3", 15}, {example(), "1 0 2 3", 7}, {example(), "2 1 0 3", 9}, {example(), "0 2 3 1", 12},
		// No persons, one, two.
		{market(""), "", 0}, {market("0"), "0", 0}, {market("0 1000|1 0"), "0 1", 0}, {market("0 1000|1 0"), "1 0", 1001}, {market("0 1000|1000 0"), "1 0", 2000},
		// Nobody wishes anything, all wish everything; one ring of all, several rings, some of which have no wish beside.
		{alike(7, 0), "0 1 2 3 4 5 6", 0}, {alike(7, 1000), "0 1 2 3 4 5 6", 0}, {alike(7, 1000), "1 2 3 4 5 6 0", 7000}, {alike(7, 1000), "1 0 3 2 5 6 4", 7000}, {alike(7, 1000), "0 2 1 3 4 5 6", 2000}, {circle(), "1 2 3 4 5 6 0", 7000}, {pairs, "6 5 4 3 2 1 0", 1333}, {pairs, "0 5 2 3 4 1 6", 320}, {pairs, "6 1 2 3 4 5 0", 1001},
		// The first one that gets what it does not wish.
		{example(), "2 0 1 3", -3}, {example(), "0 2 1 3", -3}, {example(), "3 1 2 0", -1}, {example(), "0 3 2 1", -2}, {example(), "3 2 1 0", -1}, {example(), "1 3 0 2", -2}, {example(), "1 2 3 0", -4}, {example(), "0 1 3 2", -4},
		{market("0 0|0 0"), "1 0", -1}, {market("0 1|0 0"), "1 0", -2}, {market("0 0|1 0"), "1 0", -1}, {alike(7, 0), "1 2 3 4 5 6 0", -1}, {alike(7, 0), "0 1 2 3 4 6 5", -6}, {circle(), "1 2 3 4 5 0 6", -6}, {chain(), "1 2 3 4 5 6 0", -7}, {back(), "0 1 3 2 5 4 6", -3}, {pairs, "0 1 2 4 3 5 6", -4}, {pairs, "6 5 4 0 2 1 3", -7},
	} {
		want, first, err := c.worth, 0, api.OK
		if c.worth < 0 {
			want, first, err = 0, -c.worth-1, api.ErrRefuse
		}
		if worth, person, e := ring.Gives(c.m, list(c.gets)); worth != want || person != first || e != err {
			t.Errorf("%d: Gives = %d, %d, error %d", i, worth, person, e)
		}
	}
}

// P9.2.
func TestRings(t *testing.T) {
	for _, c := range []struct {
		gets string
		want [][]int
	}{
		{"1 2 0 3", [][]int{{0, 1, 2}}}, {"1 0 3 2", [][]int{{0, 1}, {2, 3}}}, {"", nil}, {"0", nil}, {"0 1", nil}, {"1 0", [][]int{{0, 1}}}, {"0 1 2 3 4 5 6", nil}, {"2 0 1", [][]int{{0, 2, 1}}},
		{"1 2 3 4 5 6 0", [][]int{{0, 1, 2, 3, 4, 5, 6}}}, {"6 0 1 2 3 4 5", [][]int{{0, 6, 5, 4, 3, 2, 1}}}, {"3 4 5 6 0 1 2", [][]int{{0, 3, 6, 2, 5, 1, 4}}}, {"6 5 4 3 2 1 0", [][]int{{0, 6}, {1, 5}, {2, 4}}}, {"0 1 2 3 4 6 5", [][]int{{5, 6}}},
		{"0 6 5 4 3 2 1", [][]int{{1, 6}, {2, 5}, {3, 4}}}, {"4 3 0 6 2 5 1", [][]int{{0, 4, 2}, {1, 3, 6}}}, {"0 2 3 1 5 6 4", [][]int{{1, 2, 3}, {4, 5, 6}}}, {"5 2 1 4 6 0 3", [][]int{{0, 5}, {1, 2}, {3, 4, 6}}},
	} {
		if rings, e := ring.Rings(list(c.gets)); !sameRings(rings, c.want) || e != api.OK {
			t.Errorf("Rings of %s = %v, error %d", c.gets, rings, e)
		}
	}
	// 8 persons, numbers that are no persons, and persons that come twice.
	for _, text := range []string{"0 1 2 3 4 5 6 7", "1 2 3 4 5 6 7 0", "0 1 2 3 4 5 6 0", "1", "-1", "0 0", "1 1", "0 2", "2 0", "-1 0", "1 2 3", "0 1 1", "1 2 1", "7 1 2 3 4 5 6", "0 1 2 3 4 5 5", "64", "0 65", "9223372036854775807", "-9223372036854775808 0"} {
		if rings, e := ring.Rings(list(text)); len(rings) != 0 || e != api.ErrRange {
			t.Errorf("Rings of %s = %v, error %d", text, rings, e)
		}
	}
	if rings, e := ring.Rings(make([]int, 1<<20)); len(rings) != 0 || e != api.ErrRange {
		t.Errorf("Rings = %v, error %d", rings, e)
	}
}

// P9.3.
func TestBest(t *testing.T) {
	for i, c := range []struct {
		m     api.Market
		gets  string
		worth int
	}{
		{example(), "1 2 0 3", 15},
		// No persons, one, two.
		{market(""), "", 0}, {market("0"), "0", 0}, {market("0 0|0 0"), "0 1", 0}, {market("0 1|0 0"), "0 1", 0}, {market("0 0|1000 0"), "0 1", 0}, {market("0 1|1 0"), "1 0", 2}, {market("0 1000|1 0"), "1 0", 1001},
		// Nobody wishes anything, all wish everything: many exchanges give as much.
		{alike(3, 0), "0 1 2", 0}, {alike(7, 0), "0 1 2 3 4 5 6", 0}, {alike(3, 1), "1 2 0", 3}, {alike(4, 5), "1 0 3 2", 20}, {alike(5, 1), "1 0 3 4 2", 5}, {alike(6, 1000), "1 0 3 2 5 4", 6000}, {alike(7, 1000), "1 0 3 2 5 6 4", 7000},
		// One ring of all, of which a shorter one gives less; no ring can be closed; several rings.
		{circle(), "1 2 3 4 5 6 0", 7000}, {chain(), "0 1 2 3 4 5 6", 0}, {back(), "0 1 2 3 4 5 6", 0}, {told(7, "0-6:1 6-0:1 1-5:1 5-1:1 2-4:1 4-2:1 3-1:1000"), "6 5 4 3 2 1 0", 6}, {told(7, "0-6:1 6-0:1 1-5:1 5-1:1 3-1:9 1-3:1"), "6 3 2 1 4 5 0", 12},
		// A greater wish that leaves somebody else out; many small wishes against a great one.
		{told(3, "0-1:9 1-0:1 1-2:4 2-1:4"), "1 0 2", 10}, {told(3, "0-1:9 1-0:1 1-2:6 2-1:6"), "0 2 1", 12}, {told(4, "0-1:1 1-2:1 2-3:1 3-0:1 0-2:4 2-0:1"), "2 1 3 0", 6}, {told(4, "0-1:1 1-2:1 2-3:1 3-0:1 0-2:2 2-0:1"), "1 2 3 0", 4},
		// As much is given by several: the first one gives the person 0 a puzzle before the others', also its own one.
		{told(3, "0-1:3 1-0:3 0-2:3 2-0:3"), "1 0 2", 6}, {told(3, "0-1:3 1-0:3 1-2:3 2-1:3"), "0 2 1", 6}, {told(4, "0-1:2 1-0:2 2-3:2 3-2:2 0-3:2 3-0:2 1-2:2 2-1:2"), "1 0 3 2", 8}, {told(4, "0-2:2 2-0:2 1-3:2 3-1:2 0-3:2 3-0:2 1-2:2 2-1:2"), "2 3 0 1", 8},
		{told(5, "0-4:5 4-0:5 1-2:5 2-1:5 2-3:5 3-2:5"), "4 1 3 2 0", 20}, {told(5, "0-3:2 3-1:2 1-0:2 0-4:2 4-1:2 0-1:5 1-3:2"), "1 0 2 3 4", 7}, {told(5, "0-3:2 3-1:2 1-0:2 0-4:2 4-1:2"), "3 0 2 1 4", 6}, {told(4, "0-1:1 1-0:1 1-2:1 2-3:1 3-0:1 2-1:1"), "1 2 3 0", 4},
	} {
		gets, worth, e := ring.Best(c.m)
		if !slices.Equal(gets, list(c.gets)) || worth != c.worth || e != api.OK {
			t.Errorf("%d: Best = %v, %d, error %d", i, gets, worth, e)
		}
	}
}

// P9.4.
func TestPrices(t *testing.T) {
	for i, c := range []struct {
		m    api.Market
		want string
	}{
		{example(), "3 7 5 0"},
		// No persons, one, two; nobody wishes anything, all wish everything as much.
		{market(""), ""}, {market("0"), "0"}, {market("0 0|0 0"), "0 0"}, {market("0 1|1 0"), "0 0"}, {market("0 1000|1 0"), "0 0"}, {market("0 1000|0 0"), "0 1000"}, {market("0 0|1 0"), "1 0"}, {alike(7, 0), "0 0 0 0 0 0 0"}, {alike(7, 1000), "0 0 0 0 0 0 0"}, {circle(), "0 0 0 0 0 0 0"},
		// Who keeps its own puzzle, which others wish; which two others wish; raised one after another, in one order and in the other one.
		{told(3, "0-1:5"), "0 5 0"}, {told(3, "0-1:5 2-1:9"), "0 9 0"}, {told(3, "0-1:5 1-2:4"), "0 5 9"}, {told(3, "2-1:5 1-0:4"), "9 5 0"}, {chain(), "0 1000 2000 3000 4000 5000 6000"}, {back(), "6000 5000 4000 3000 2000 1000 0"}, {told(4, "0-1:5 1-3:1 0-2:3 2-3:4"), "0 5 3 7"}, {told(4, "3-1:1 1-0:9 3-2:4 2-0:5"), "10 1 4 0"},
		// Who gets a puzzle would rather have another one; a puzzle that is got, and wished by one who keeps its own.
		{told(4, "0-1:2 1-0:2 0-2:3 0-3:4"), "0 0 1 2"}, {told(3, "0-1:9 1-0:9 2-1:4"), "0 4 0"}, {told(3, "0-1:9 1-0:9 2-1:4 2-0:6"), "6 4 0"}, {told(3, "0-1:1 1-0:1 2-0:1000"), "1000 999 0"}, {told(3, "0-1:1 1-0:1 2-1:1000"), "999 1000 0"}, {told(3, "0-1:1 1-2:1 2-0:1 0-2:3"), "0 0 1"}, {told(4, "0-1:2 1-2:2 2-0:2 0-2:3 3-0:7"), "7 3 5 0"},
		// A person that would rather have its own puzzle, if that cost nothing more.
		{told(3, "0-1:5 1-0:1 2-1:8"), "3 8 0"}, {told(3, "0-1:5 1-0:1 2-1:4"), "0 4 0"}, {told(3, "0-1:5 1-0:1 2-0:8 2-1:2"), "8 7 0"},
	} {
		prices, e := ring.Prices(c.m)
		if !slices.Equal(prices, list(c.want)) || e != api.OK {
			t.Errorf("%d: Prices = %v, error %d", i, prices, e)
		}
		if slow := slowPrices(c.m); !slices.Equal(slow, list(c.want)) {
			t.Errorf("%d: the slower way finds %v", i, slow)
		}
	}
}

// P9.5.
func TestEnvies(t *testing.T) {
	rich := told(4, "0-1:5 0-2:5 0-3:5 1-0:2 1-2:9 2-3:4 3-2:4")
	for i, c := range []struct {
		m            api.Market
		gets, prices string
		person, of   int
	}{
		{example(), "0 1 2 3", "9 9 9 9", 0, 1}, {example(), "1 2 0 3", "0 0 0 0", 3, 1},
		// Own puzzles: who gets less than nothing would rather have its own, also if others would be better, too.
		{example(), "1 2 0 3", "0 100000 0 0", 0, 0}, {example(), "1 2 0 3", "0 6 0 0", 0, 0}, {example(), "1 0 2 3", "3 5 0 0", 0, 2}, {example(), "1 0 2 3", "0 4 3 0", 2, 0}, {market("0 5|5 0"), "1 0", "0 6", 0, 0}, {market("0 5|5 0"), "1 0", "6 0", 1, 1}, {market("0 1|1 0"), "1 0", "100000 0", 1, 1}, {market("0 1|1 0"), "1 0", "0 100000", 0, 0},
		{told(3, "0-1:5 1-0:5"), "1 0 2", "3 9 0", 0, 0}, {told(3, "0-1:5 1-0:5 0-2:9"), "1 0 2", "3 9 0", 0, 0}, {told(3, "0-1:5 1-0:5 0-2:9"), "1 0 2", "4 9 0", 0, 2}, {told(3, "0-1:5 1-0:5 0-2:9"), "1 0 2", "4 8 0", 0, 2}, {told(3, "1-2:5 2-1:5 1-0:9"), "0 2 1", "13 3 9", 1, 1}, {told(3, "1-2:5 2-1:5 1-0:9"), "0 2 1", "8 3 8", 1, 0},
		// Several are not content; several puzzles would be better, of which the first one need not be the best.
		{rich, "1 0 3 2", "0 5 5 5", 1, 2}, {rich, "1 0 3 2", "0 7 6 5", 0, 0}, {rich, "1 0 3 2", "2 8 7 6", 0, 0}, {rich, "1 0 3 2", "3 8 7 6", 0, 2}, {rich, "1 0 3 2", "3 8 8 7", 0, 3}, {rich, "1 0 3 2", "9 0 0 0", 1, 1}, {rich, "1 0 3 2", "0 0 7 0", 3, 3}, {rich, "1 0 3 2", "0 0 7 9", -1, -1}, {rich, "1 0 3 2", "0 0 7 12", 2, 2}, {rich, "0 1 2 3", "0 0 0 0", 0, 1}, {rich, "0 1 2 3", "0 5 5 4", 0, 3}, {rich, "0 1 2 3", "0 5 5 5", 1, 0}, {rich, "0 1 2 3", "3 5 5 5", 0, 1}, {rich, "0 1 2 3", "100000 100000 100000 100000", 0, 1}, {rich, "0 1 2 3", "0 7 18 19", 1, 0},
		// A puzzle that is not wished is not better, though it is cheaper; one that costs nothing, one that costs most.
		{told(3, "0-1:5 1-0:5 0-2:1"), "1 0 2", "99 99 0", 0, 2}, {told(3, "0-1:5 1-0:5"), "1 0 2", "99 99 98", -1, -1}, {told(3, "2-1:1000"), "0 1 2", "0 0 100000", 2, 1}, {told(3, "2-1:1000"), "0 1 2", "0 100000 99000", -1, -1}, {told(3, "2-1:1000"), "0 1 2", "0 100000 99001", 2, 1}, {told(3, "0-2:1000"), "0 1 2", "0 0 1000", -1, -1}, {told(3, "0-2:1000"), "0 1 2", "0 0 999", 0, 2},
		// Content: at the least prices, at all of them greater by as much, at just the same, with nobody.
		{example(), "1 2 0 3", "3 7 5 0", -1, -1}, {example(), "1 2 0 3", "99996 100000 99998 99993", -1, -1}, {example(), "1 2 0 3", "2 7 5 0", 1, 0}, {example(), "1 2 0 3", "3 6 5 0", 3, 1}, {example(), "1 2 0 3", "3 7 4 0", 0, 2}, {example(), "1 2 0 3", "3 7 5 1", 3, 1}, {example(), "1 2 0 3", "4 7 5 0", -1, -1}, {example(), "0 1 2 3", "0 0 0 0", 0, 1},
		{market(""), "", "", -1, -1}, {market("0"), "0", "0", -1, -1}, {market("0"), "0", "100000", -1, -1}, {market("0 0|0 0"), "0 1", "0 100000", -1, -1}, {market("0 5|5 0"), "1 0", "0 5", -1, -1}, {market("0 5|5 0"), "1 0", "5 0", -1, -1}, {market("0 5|5 0"), "0 1", "3 3", 0, 1}, {market("0 5|5 0"), "0 1", "0 5", 1, 0}, {market("0 5|0 0"), "0 1", "0 5", -1, -1}, {alike(7, 3), "1 2 3 4 5 6 0", "2 2 2 2 2 2 2", -1, -1}, {alike(7, 3), "1 2 3 4 5 6 0", "2 2 2 2 1 2 2", 0, 4},
	} {
		want := api.OK
		person, of := c.person, c.of
		if person < 0 {
			person, of, want = 0, 0, api.ErrNone
		}
		if a, b, e := ring.Envies(c.m, list(c.gets), list(c.prices)); a != person || b != of || e != want {
			t.Errorf("%d: Envies = %d, %d, error %d", i, a, b, e)
		}
		if a, b := slowEnvy(c.m, list(c.gets), list(c.prices)); a != c.person || b != c.of {
			t.Errorf("%d: the slower way finds %d, %d", i, a, b)
		}
	}
	for i, c := range []struct {
		gets   string
		person int
	}{{"1 0 3 2", 3}, {"3 1 2 0", 0}, {"0 3 2 1", 1}, {"0 1 3 2", 3}, {"2 0 1 3", 2}, {"1 3 0 2", 1}} {
		if a, b, e := ring.Envies(example(), list(c.gets), list("0 0 0 0")); a != c.person || b != 0 || e != api.ErrRefuse {
			t.Errorf("%d: Envies = %d, %d, error %d", i, a, b, e)
		}
	}
	if a, b, e := ring.Envies(chain(), list("1 2 3 4 5 6 0"), make([]int, 7)); a != 6 || b != 0 || e != api.ErrRefuse {
		t.Errorf("Envies = %d, %d, error %d", a, b, e)
	}
}

// P9.6.
func TestShort(t *testing.T) {
	five := told(7, "1-3:1 3-5:1 5-2:1 2-6:1 6-1:1 1-5:1 5-1:1")
	for i, c := range []struct {
		m     api.Market
		long  int
		gets  string
		worth int
	}{
		{example(), 2, "2 1 0 3", 9}, {example(), 3, "1 2 0 3", 15}, {example(), 4, "1 2 0 3", 15}, {example(), 7, "1 2 0 3", 15},
		// No persons, one, two; more allowed than there are.
		{market(""), 2, "", 0}, {market(""), 7, "", 0}, {market("0"), 2, "0", 0}, {market("0"), 7, "0", 0}, {market("0 1|1 0"), 2, "1 0", 2}, {market("0 1|1 0"), 7, "1 0", 2}, {market("0 1|0 0"), 2, "0 1", 0},
		// A ring of all that gives most, too long or just as long as allowed.
		{circle(), 6, "0 1 2 3 4 5 6", 0}, {circle(), 2, "0 1 2 3 4 5 6", 0}, {circle(), 7, "1 2 3 4 5 6 0", 7000}, {market("0 9 1|1 0 9|9 1 0"), 2, "0 2 1", 10}, {market("0 9 1|1 0 9|9 1 0"), 3, "1 2 0", 27}, {chain(), 7, "0 1 2 3 4 5 6", 0},
		// A ring of five, not all of the persons, and one of two in it.
		{five, 2, "0 5 2 3 4 1 6", 2}, {five, 3, "0 3 2 5 4 1 6", 3}, {five, 4, "0 5 6 3 4 2 1", 4}, {five, 5, "0 3 6 5 4 2 1", 5}, {five, 6, "0 3 6 5 4 2 1", 5},
		// All wish everything: rings of two only leave one out.
		{alike(3, 1), 2, "0 2 1", 2}, {alike(3, 1), 3, "1 2 0", 3}, {alike(5, 1), 2, "0 2 1 4 3", 4}, {alike(7, 1000), 2, "0 2 1 4 3 6 5", 6000}, {alike(7, 1000), 3, "1 0 3 2 5 6 4", 7000}, {alike(7, 1000), 7, "1 0 3 2 5 6 4", 7000}, {alike(6, 2), 2, "1 0 3 2 5 4", 12}, {alike(7, 0), 2, "0 1 2 3 4 5 6", 0},
		// Two rings of three; one of four and one of three; one of two ends a longer one.
		{told(6, "0-2:5 2-4:5 4-0:5 1-3:5 3-5:5 5-1:5 0-1:4 1-0:4"), 3, "2 3 4 5 0 1", 30}, {told(6, "0-2:5 2-4:5 4-0:5 1-3:5 3-5:5 5-1:5 0-1:4 1-0:4"), 2, "1 0 2 3 4 5", 8}, {told(7, "6-0:1 0-1:1 1-2:1 2-6:1 3-4:1 4-5:1 5-3:1"), 4, "1 2 6 4 5 3 0", 7}, {told(7, "6-0:1 0-1:1 1-2:1 2-6:1 3-4:1 4-5:1 5-3:1"), 3, "0 1 2 4 5 3 6", 3}, {told(4, "0-1:1 1-2:1 2-3:1 3-0:1 2-0:1 3-2:9"), 2, "0 1 3 2", 10}, {told(4, "0-1:1 1-2:1 2-3:1 3-0:1 2-0:1 3-2:1"), 3, "1 2 0 3", 3},
		// As much is given by several.
		{told(4, "0-1:3 1-2:3 2-3:3 3-0:3 0-3:3 3-2:3 2-1:3 1-0:3"), 2, "1 0 3 2", 12}, {told(3, "0-1:1 1-2:1 2-0:1 0-2:2 1-0:1"), 2, "2 1 0", 3}, {told(3, "0-1:2 1-2:1 2-0:1 0-2:2 1-0:1"), 2, "1 0 2", 3}, {told(4, "1-3:1 3-1:1 2-3:1 3-2:1"), 2, "0 1 3 2", 2},
	} {
		gets, worth, e := ring.Short(c.m, c.long)
		if !slices.Equal(gets, list(c.gets)) || worth != c.worth || e != api.OK {
			t.Errorf("%d: Short = %v, %d, error %d", i, gets, worth, e)
		}
		if gets, worth := slowBest(c.m, c.long); !slices.Equal(gets, list(c.gets)) || worth != c.worth {
			t.Errorf("%d: the slower way finds %v, %d", i, gets, worth)
		}
	}
	for _, m := range []api.Market{market(""), market("0"), example(), alike(7, 1)} {
		for _, long := range badLongs() {
			if gets, worth, e := ring.Short(m, long); len(gets) != 0 || worth != 0 || e != api.ErrRange {
				t.Errorf("Short with %d = %v, %d, error %d", long, gets, worth, e)
			}
		}
	}
}

// ErrArg comes first, whatever else is wrong.
func TestBadMarkets(t *testing.T) {
	good := list("1 2 0 3")
	for i, m := range badMarkets() {
		for _, gets := range [][]int{good, list("1 0 3 2"), nil, list("0 0")} {
			checkBad(t, i, m, gets)
		}
		for _, long := range append(badLongs(), 2, 3, 7) {
			if gets, worth, e := ring.Short(m, long); len(gets) != 0 || worth != 0 || e != api.ErrArg {
				t.Errorf("%d: Short with %d = %v, %d, error %d", i, long, gets, worth, e)
			}
		}
		gets, worth, e := ring.Best(m)
		prices, f := ring.Prices(m)
		if len(gets) != 0 || worth != 0 || e != api.ErrArg || len(prices) != 0 || f != api.ErrArg {
			t.Errorf("%d: Best = %v, %d, error %d, Prices = %v, error %d", i, gets, worth, e, prices, f)
		}
	}
}

// checkBad checks that nothing is said of an exchange of a market that is not valid, at good and at bad prices.
func checkBad(t *testing.T, i int, m api.Market, gets []int) {
	t.Helper()
	if worth, person, e := ring.Gives(m, gets); worth != 0 || person != 0 || e != api.ErrArg {
		t.Errorf("%d: Gives = %d, %d, error %d", i, worth, person, e)
	}
	for _, prices := range [][]int{list("3 7 5 0"), nil, {-1}} {
		if person, of, e := ring.Envies(m, gets, prices); person != 0 || of != 0 || e != api.ErrArg {
			t.Errorf("%d: Envies = %d, %d, error %d", i, person, of, e)
		}
	}
}

// ErrRange comes before ErrRefuse.
func TestErrorsComeInTheirOrder(t *testing.T) {
	for i, gets := range badExchanges() {
		if worth, person, e := ring.Gives(example(), gets); worth != 0 || person != 0 || e != api.ErrRange {
			t.Errorf("%d: Gives = %d, %d, error %d", i, worth, person, e)
		}
		for _, prices := range append(badPrices(), list("0 0 0 0")) {
			if person, of, e := ring.Envies(example(), gets, prices); person != 0 || of != 0 || e != api.ErrRange {
				t.Errorf("%d: Envies = %d, %d, error %d", i, person, of, e)
			}
		}
	}
	for i, prices := range badPrices() {
		for _, gets := range []string{"1 2 0 3", "0 1 2 3", "1 0 3 2", "3 1 2 0"} {
			if person, of, e := ring.Envies(example(), list(gets), prices); person != 0 || of != 0 || e != api.ErrRange {
				t.Errorf("%d: Envies = %d, %d, error %d", i, person, of, e)
			}
		}
	}
	// No market has an exchange of others, nor prices of others.
	for _, m := range []api.Market{market(""), market("0"), market("0 1|1 0"), alike(7, 1)} {
		if worth, person, e := ring.Gives(m, list("1 2 0 3")); worth != 0 || person != 0 || e != api.ErrRange {
			t.Errorf("Gives = %d, %d, error %d", worth, person, e)
		}
		gets, _, _ := ring.Best(m)
		if person, of, e := ring.Envies(m, gets, list("3 7 5 0")); person != 0 || of != 0 || e != api.ErrRange {
			t.Errorf("Envies = %d, %d, error %d", person, of, e)
		}
	}
}
