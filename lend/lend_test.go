package lend_test

import (
	"slices"
	"testing"

	"jigworks/api"
	"jigworks/lend"
)

// P8.1.
func TestHolder(t *testing.T) {
	touching := tale(1, "- -", "1.20-30 0.10-20", "")
	once := tale(1, "- -", "1.7-8", "")
	ends := tale(1, "- - -", "2.L-M 0.0-1", "")
	whole := tale(1, "-", "0.0-M", "")
	for i, c := range []struct {
		t          api.Tale
		hour, want int
	}{
		{example("- 1 -", ""), 19, 0}, {example("- 1 -", ""), 25, -1}, {example("- 1 -", ""), 40, 2},
		{example("- 1 -", ""), 0, -1}, {example("- 1 -", ""), 9, -1}, {example("- 1 -", ""), 10, 0}, {example("- 1 -", ""), 20, -1}, {example("- 1 -", ""), 29, -1}, {example("- 1 -", ""), 30, 1}, {example("- 1 -", ""), 39, 1}, {example("- 1 -", ""), 59, 2}, {example("- 1 -", ""), 60, -1}, {example("- 1 -", ""), 1048575, -1},
		// Loans that touch, in the other order; a loan of one hour; from the first hour, and up to the last one; of all hours; none.
		{touching, 9, -1}, {touching, 10, 0}, {touching, 19, 0}, {touching, 20, 1}, {touching, 29, 1}, {touching, 30, -1},
		{once, 6, -1}, {once, 7, 1}, {once, 8, -1},
		{ends, 0, 0}, {ends, 1, -1}, {ends, 1048574, -1}, {ends, 1048575, 2},
		{whole, 0, 0}, {whole, 5000, 0}, {whole, 1048575, 0},
		{tale(1, "-", "", ""), 0, -1}, {tale(1, "-", "", ""), 1048575, -1},
		// Two loans of one person; a tale that is not true; the greatest tale.
		{tale(1, "-", "0.0-5 0.6-9", ""), 5, -1}, {tale(1, "-", "0.0-5 0.6-9", ""), 6, 0}, {tale(1, "0", "0.0-5", "3:a 2:A"), 4, 0},
		{full(), 4, 0}, {full(), 5, -1}, {full(), 114, 5}, {full(), 110, 5}, {full(), 60, 0}, {full(), 115, -1},
	} {
		if n, e := lend.Holder(c.t, c.hour); n != c.want || e != api.OK {
			t.Errorf("%d: Holder = %d, error %d", i, n, e)
		}
	}
}

// P8.2.
func TestWindow(t *testing.T) {
	all := span(0, 1048575)
	for i, c := range []struct {
		t     api.Tale
		piece int
		want  api.Span
		gone  bool
	}{
		{example("- 1 -", ""), 0, span(10, 24), true}, {example("- 1 -", ""), 1, span(25, 59), true}, {example("- 1 -", ""), 2, span(25, 59), true}, {example("- 1 -", ""), 3, span(10, 1048575), false},
		// No looks; looks that see nothing, or other pieces only.
		{tale(1, "-", "", ""), 0, all, false}, {tale(1, "-", "0.5-6", "3: 9:"), 0, all, false}, {tale(3, "-", "", "3:aC 9:Ac"), 1, all, false},
		// Looks at the hour 0, and at MaxHour.
		{tale(1, "-", "", "0:a"), 0, all, false}, {tale(1, "-", "", "M:a"), 0, span(0, 0), false}, {tale(1, "-", "", "M:A"), 0, all, true}, {tale(1, "-", "", "L:a"), 0, span(1048575, 1048575), false}, {tale(1, "-", "", "1:A"), 0, span(0, 0), true}, {tale(1, "-", "", "0:a M:A"), 0, all, true},
		{tale(1, "-", "", "L:a M:A"), 0, span(1048575, 1048575), true}, {tale(1, "-", "", "M:a 3:a"), 0, span(0, 0), false}, {tale(1, "-", "", "3:a M:a 0:a"), 0, span(0, 0), false},
		// A window of one hour; several looks, of which the narrowest count, in each order.
		{tale(1, "-", "", "5:a 6:A"), 0, span(5, 5), true}, {tale(1, "-", "", "6:A 5:a"), 0, span(5, 5), true}, {tale(1, "-", "", "3:a 5:a 4:a"), 0, span(5, 1048575), false}, {tale(1, "-", "", "9:A 7:A 8:A"), 0, span(0, 6), true}, {tale(1, "-", "", "7:A 3:a 8:A 2:a"), 0, span(3, 6), true},
		{tale(1, "-", "", "4:a 7:A 5:a 6:A"), 0, span(5, 5), true}, {tale(16, "-", "", "4:a 7:P 5:p"), 15, span(5, 6), true}, {tale(16, "-", "", "4:a 7:P 5:p"), 0, span(4, 1048575), false},
		// Two looks at one hour at other pieces; other pieces that cannot be; what is admitted makes no difference.
		{tale(2, "-", "", "5:a 5:B"), 0, span(5, 1048575), false}, {tale(2, "-", "", "5:a 5:B"), 1, span(0, 4), true}, {tale(3, "-", "", "4:A 4:a 6:b 6:B 3:c"), 2, span(3, 1048575), false}, {tale(2, "0", "0.0-M", "4:A"), 0, span(0, 3), true}, {tale(2, "16", "", "4:A"), 1, all, false},
		{full(), 0, span(0, 4), true}, {full(), 1, span(5, 14), true}, {full(), 11, span(105, 114), true}, {full(), 12, span(115, 1048575), false},
	} {
		if w, gone, e := lend.Window(c.t, c.piece); w != c.want || gone != c.gone || e != api.OK {
			t.Errorf("%d: Window = %v, %v, error %d", i, w, gone, e)
		}
	}
	for i, x := range []api.Tale{
		// Gone at the hour 0; gone and there at one hour; gone before it was there; in each order.
		tale(1, "-", "", "0:A"), tale(1, "-", "", "5:a 5:A"), tale(1, "-", "", "5:A 5:a"), tale(1, "-", "", "4:A 5:a"), tale(1, "-", "", "5:a 4:A"), tale(1, "-", "", "M:a M:A"), tale(1, "-", "", "M:A M:a"), tale(1, "-", "", "0:a 0:A"), tale(1, "-", "", "0:A 0:a"),
		tale(1, "-", "", "M:a 0:A"), tale(1, "-", "", "0:A M:a"), tale(1, "-", "", "3:a 9:A 7:a 8:A 1:a 6:A"), tale(2, "-", "", "3:Ab 3:a"), tale(2, "-", "", "3:Ab 4:a"), tale(16, "-", "0.2-5", "1:b 3:Ab 4:abcd"),
	} {
		if w, gone, e := lend.Window(x, 0); w != (api.Span{}) || gone || e != api.ErrState {
			t.Errorf("%d: Window = %v, %v, error %d", i, w, gone, e)
		}
	}
}

// P8.3.
func TestWho(t *testing.T) {
	for i, c := range []struct {
		t     api.Tale
		piece int
		want  string
	}{
		{example("- 1 -", ""), 0, "0L"}, {example("- 1 -", ""), 1, "12L"}, {example("- 1 -", ""), 3, "012LN"}, {example("- 3 -", ""), 1, "1"}, {example("- 3 -", ""), 3, "1"}, {example("0 0 0", ""), 0, "L"}, {example("0 0 0", ""), 1, "L"}, {example("0 0 0", ""), 3, "LN"},
		{example("- - -", ""), 0, "0L"}, {example("- - -", ""), 1, "12L"}, {example("- - -", ""), 3, "012LN"}, {example("2 - -", ""), 3, "0"}, {example("- - 2", ""), 3, "012LN"}, {example("1 1 2", ""), 3, "12"}, {example("1 2 1", ""), 0, "0"}, {example("1 2 1", ""), 3, "12"}, {example("1 1 1", ""), 3, "012LN"}, {example("1 1 1", ""), 0, "0L"}, {example("2 1 1", ""), 3, "0"},
		// One piece, one person: with a loan or without one, silent, admitting none, or one.
		{tale(1, "-", "", ""), 0, "LN"}, {tale(1, "0", "", ""), 0, "LN"}, {tale(1, "-", "0.5-6", ""), 0, "0LN"}, {tale(1, "0", "0.5-6", ""), 0, "LN"}, {tale(1, "1", "0.5-6", ""), 0, "0"}, {tale(1, "-", "0.5-6", "9:A"), 0, "0L"}, {tale(1, "-", "0.5-6", "9:a"), 0, "LN"},
		{tale(1, "-", "0.0-M", ""), 0, "0N"}, {tale(1, "-", "0.0-M", "M:A"), 0, "0"}, {tale(1, "-", "0.0-M", "M:a"), 0, "N"}, {tale(1, "-", "", "M:a"), 0, "N"}, {tale(1, "-", "", "M:A"), 0, "L"}, {tale(1, "-", "0.0-M", "L:a"), 0, "0N"}, {tale(1, "-", "0.0-L", "L:a"), 0, "LN"},
		// A window of one hour, at both ends of a loan; a window between loans; loans that touch cover it.
		{tale(1, "-", "0.5-7", "5:a 6:A"), 0, "0"}, {tale(1, "-", "0.5-7", "6:a 7:A"), 0, "0"}, {tale(1, "-", "0.5-7", "4:a 5:A"), 0, "L"}, {tale(1, "-", "0.5-7", "7:a 8:A"), 0, "L"}, {tale(1, "-", "0.5-7", "4:a 6:A"), 0, "0L"}, {tale(1, "-", "0.5-7", "6:a 8:A"), 0, "0L"},
		{tale(1, "- -", "0.5-7 1.8-9", "7:a 8:A"), 0, "L"}, {tale(1, "- -", "1.7-9 0.5-7", "5:a 9:A"), 0, "01"}, {tale(1, "- -", "1.7-9 0.5-7", "6:a 8:A"), 0, "01"}, {tale(1, "- -", "1.7-9 0.5-7", "6:a 7:A"), 0, "0"}, {tale(1, "- -", "1.7-9 0.5-7", "7:a 8:A"), 0, "1"}, {tale(1, "- -", "1.7-9 0.5-7", "4:a 9:A"), 0, "01L"},
		{tale(1, "- -", "0.0-1 1.L-M", "1:A"), 0, "0"}, {tale(1, "- -", "0.0-1 1.L-M", "L:a"), 0, "1N"}, {tale(1, "- -", "0.0-1 1.L-M", "1:a L:A"), 0, "L"}, {tale(1, "- -", "0.0-1 1.L-M", "M:A"), 0, "01L"}, {tale(1, "0 0", "0.0-1 1.L-M", "L:a"), 0, "N"},
		// A person without a loan has lost none, silent or not; a person with several loans.
		{tale(2, "- -", "1.5-6", "9:A"), 0, "1L"}, {tale(2, "0 1", "1.5-6", "9:Ab"), 0, "1"}, {tale(2, "0 1", "1.5-6", "9:A"), 0, "1L"}, {tale(2, "0 1", "1.5-6", "9:A"), 1, "1LN"}, {tale(1, "- -", "0.5-6 1.7-8 0.9-10", "7:a 10:A"), 0, "01L"}, {tale(1, "- -", "0.5-6 1.7-8 0.9-10", "6:a 8:A"), 0, "1L"},
		// What is admitted of other pieces counts: two can have been lost by the person 0 only, who admits two.
		{tale(3, "2 -", "0.5-7 1.7-9", "5:abc 7:AB 9:C"), 2, "1"}, {tale(3, "2 -", "0.5-7 1.7-9", "5:abc 7:A 9:BC"), 1, "01"}, {tale(3, "2 1", "0.5-7 1.7-9", "5:abc 7:A 9:BC"), 2, "01"}, {tale(3, "1 -", "0.5-7 1.7-9", "5:abc 7:A 9:BC"), 2, "1"}, {tale(3, "3 0", "0.5-7 1.7-9", "5:abc 7:A 9:BC"), 2, "0"},
		// Chains: the piece 0 can only be the person 0's, so that 1 is the person 1's, and 2 the person 2's.
		{tale(4, "1 1 1", "0.0-1 1.1-2 2.2-3", "1:A 2:B 3:C"), 1, "1"}, {tale(4, "1 1 1", "0.0-1 1.1-2 2.2-3", "1:A 2:B 3:C"), 2, "2"}, {tale(4, "1 1 1", "0.0-1 1.1-2 2.2-3", "1:A 2:B 3:C"), 3, "LN"}, {tale(4, "1 1 -", "0.0-1 1.1-2 2.2-3", "1:A 2:B 3:C"), 3, "2LN"}, {tale(4, "1 1 2", "0.0-1 1.1-2 2.2-3", "1:A 2:B 3:C"), 3, "2"}, {tale(4, "1 2 1", "0.0-1 1.1-2 2.2-3", "1:A 2:B 3:C"), 2, "12"},
		// All admit all that there is; one admits all; nobody has lost any.
		{tale(16, "16", "0.3-4", ""), 9, "0"}, {tale(16, "8 8", "0.3-4 1.5-6", ""), 15, "01"}, {tale(16, "15 -", "0.3-4 1.5-6", ""), 15, "01LN"}, {tale(16, "15 1", "0.3-4 1.5-6", ""), 0, "01"}, {tale(16, "0 0 0 0 0 0", "0.3-4 1.5-6 5.8-9", ""), 4, "LN"}, {tale(2, "-", "0.0-M", "M:ab"), 1, "N"},
		{full(), 0, "0"}, {full(), 1, "1L"}, {full(), 7, "1L"}, {full(), 11, "5L"}, {full(), 12, "LN"}, {full(), 15, "LN"},
	} {
		if n, e := lend.Who(c.t, c.piece); n != set(c.want) || e != api.OK {
			t.Errorf("%d: Who = %d, error %d, not %d", i, n, e, set(c.want))
		}
	}
}

// P8.4.
func TestLost(t *testing.T) {
	for i, c := range []struct {
		t      api.Tale
		person int
		lo, hi int
	}{
		{example("- 1 -", ""), 0, 0, 2}, {example("- 1 -", ""), 1, 1, 1}, {example("- 1 -", ""), 2, 0, 2}, {example("- 3 -", ""), 0, 0, 1}, {example("- 3 -", ""), 2, 0, 0}, {example("0 0 0", ""), 1, 0, 0}, {example("- - -", ""), 0, 0, 2}, {example("- - -", ""), 1, 0, 3}, {example("2 - -", ""), 1, 0, 2}, {example("2 2 -", ""), 2, 0, 0},
		// One piece, one person.
		{tale(1, "-", "", ""), 0, 0, 0}, {tale(1, "0", "", ""), 0, 0, 0}, {tale(1, "-", "0.5-6", ""), 0, 0, 1}, {tale(1, "1", "0.5-6", ""), 0, 1, 1}, {tale(1, "0", "0.5-6", ""), 0, 0, 0}, {tale(1, "-", "0.5-6", "5:a 6:A"), 0, 1, 1}, {tale(1, "-", "0.5-6", "6:a"), 0, 0, 0}, {tale(1, "-", "0.5-6", "5:A"), 0, 0, 0},
		// A person without a loan; several loans; all hours.
		{tale(3, "- - -", "0.5-6 2.6-7", "9:ABC"), 1, 0, 0}, {tale(3, "- - -", "0.5-6 2.6-7", "5:abc 7:ABC"), 0, 0, 3}, {tale(3, "- - 2", "0.5-6 2.6-7", "5:abc 7:ABC"), 0, 1, 1}, {tale(3, "- - 3", "0.5-6 2.6-7", "5:abc 7:ABC"), 0, 0, 0}, {tale(3, "0 - -", "0.5-6 2.6-7", "5:abc 7:ABC"), 2, 3, 3},
		{tale(3, "-", "0.5-6 0.8-9", "5:abc 6:A 8:Bc 9:C"), 0, 2, 3}, {tale(3, "-", "0.0-M", "M:ABc"), 0, 2, 2}, {tale(3, "-", "0.0-M", "M:AB"), 0, 2, 3}, {tale(16, "-", "0.0-M", ""), 0, 0, 16}, {tale(16, "16", "0.0-M", ""), 0, 16, 16}, {tale(16, "-", "0.3-4", "3:abcdefghijklmnop 4:ABCDEFGHIJKLMNOP"), 0, 16, 16},
		// What others admit: as many as there are pieces; a chain.
		{tale(16, "- 16", "0.3-4 1.5-6", ""), 0, 0, 0}, {tale(16, "- 15", "0.3-4 1.5-6", ""), 0, 0, 1}, {tale(16, "- 1 2 3 4 5", "0.3-4 1.5-6 2.6-7 3.7-8 4.8-9 5.9-10", ""), 0, 0, 1}, {tale(16, "- 1 2 3 4 5", "0.3-4 1.5-6 2.6-7 3.7-8 4.8-9 5.9-10", "4:A"), 0, 0, 1}, {tale(16, "- 1 2 3 4 5", "0.3-4 1.5-6 2.6-7 3.7-8 4.8-9 5.9-10", "3:a 4:A"), 0, 1, 1},
		{tale(4, "1 1 -", "0.0-1 1.1-2 2.2-3", "1:A 2:B 3:C"), 2, 1, 2}, {tale(4, "1 - 1", "0.0-1 1.1-2 2.2-3", "1:A 2:B 3:C"), 1, 1, 2}, {tale(4, "1 2 -", "0.0-1 1.1-2 2.2-3", "1:A 2:B 3:C 3:D"), 2, 1, 1}, {tale(4, "- 2 1", "0.0-1 1.1-2 2.2-3", "1:A 2:B 3:C 3:D"), 0, 1, 1},
		{full(), 0, 1, 2}, {full(), 5, 0, 2}, {full(), 3, 0, 2},
	} {
		if s, e := lend.Lost(c.t, c.person); s != span(c.lo, c.hi) || e != api.OK {
			t.Errorf("%d: Lost = %v, error %d", i, s, e)
		}
	}
}

// P8.5, and ErrState of Who and Lost.
func TestClash(t *testing.T) {
	ends := "0.0-1 1.1-2 2.2-3"
	for i, c := range []struct {
		t    api.Tale
		look int
	}{
		{example("- 1 -", "25:a"), 3}, {example("- 4 -", ""), 3}, {example("- 1 -", "70: 25:a"), 4}, {example("- 4 -", "25:a"), 3}, {example("3 - -", ""), 3}, {example("2 2 2", ""), 3}, {example("0 3 1", ""), 3}, {example("2 3 -", ""), 3},
		// At the first look, the last one, the second of two that cannot be; between them looks at other pieces, or at none.
		{tale(1, "-", "", "0:A"), 0}, {tale(1, "-", "", "0:A 0:A 0:a"), 0}, {tale(1, "-", "", "5:a 5:A"), 1}, {tale(1, "-", "", "5:A 5:a"), 1}, {tale(1, "-", "", "0:a 0:A"), 1}, {tale(1, "-", "", "M:a M:A"), 1}, {tale(2, "-", "", "9:a 5:b 4:A"), 2}, {tale(2, "-", "", "4:A 5:b 6: 9:a"), 3}, {tale(2, "-", "", "4:A 9:a 4:B 9:b"), 1},
		{tale(2, "-", "", "4:A 4:B 9:b 9:a"), 2}, {tale(2, "-", "", "4:AB 9:ab"), 1}, {tale(3, "-", "", "4:Ab 5:C 5:aB 4:c"), 2}, {tale(1, "-", "", "3:a 8:A 5:a 6:a 7:a 8:a"), 5}, {tale(1, "-", "", "3:a 8:A 7:A 6:A 5:A 3:A"), 5}, {tale(16, "-", "", "3:p 2:Pa"), 1},
		{tale(1, "-", "", "1:a 2:a 3:a 4:a 5:a 6:a 7:a 8:a 9:a 10:a 11:a 12:a 13:a 14:a 15:a 16:a 17:a 18:a 19:a 19:A"), 19}, {tale(1, "-", "", "0:A 2:a 3:a 4:a 5:a 6:a 7:a 8:a 9:a 10:a 11:a 12:a 13:a 14:a 15:a 16:a 17:a 18:a 19:a 20:a"), 0},
		// What is admitted: more than there are pieces, by one or by all; without a loan; without looks.
		{tale(1, "1", "", ""), 0}, {tale(1, "2", "0.5-6", ""), 0}, {tale(1, "16", "0.0-M", "3:a 9:A"), 2}, {tale(1, "1 1", "0.5-6 1.6-7", ""), 0}, {tale(15, "16", "0.0-M", ""), 0}, {tale(16, "9 8", "0.0-9 1.9-M", "4:"), 1}, {tale(16, "16 16 16 16 16 16", "0.5-6 1.6-7 2.7-8", ""), 0}, {tale(3, "0 1", "0.5-6", "9:A"), 1},
		// All hours are the person's, who admits too few; each has too few hours; a window that one alone can have.
		{tale(2, "1", "0.0-M", "M:AB"), 1}, {tale(2, "0", "0.0-M", "M:A"), 1}, {tale(1, "0", "0.5-7", "5:a 6:A"), 2}, {tale(1, "0 0", "0.5-6 1.6-8", "5:a 8:A"), 2}, {tale(2, "2", "0.5-6", "6:a"), 1}, {tale(2, "1 -", "0.5-6 1.7-8", "5:ab 6:AB"), 2}, {tale(1, "1", "0.5-6", "M:a"), 1},
		// One by one they fit, but not together: two that can have lost one piece only, three of two pieces, two of which all pieces are.
		{tale(3, "1 1", "0.5-6 1.6-7", "5:bc 7:Abc M:bc"), 3}, {tale(4, "1 1 1", "0.5-6 1.6-7 2.7-8", "8:cd 9:cd"), 2}, {tale(4, "2 1", "0.5-6 1.6-7", "5:abcd 7:ABCD"), 2}, {tale(4, "1 1 2", ends, "1:AB 2:C 3:D"), 3}, {tale(4, "1 1 1", ends, "1:AB 2:B 3:C"), 3}, {tale(4, "1 2 0", ends, "1:A 2:B 3:C 2:c"), 4}, {tale(4, "2 1 -", ends, "1:aB 3:ABCD 2:cd"), 3},
	} {
		if n, e := lend.Clash(c.t); n != c.look || e != api.OK {
			t.Errorf("%d: Clash = %d, error %d", i, n, e)
		}
		for piece := range c.t.Pieces {
			if n, e := lend.Who(c.t, piece); n != 0 || e != api.ErrState {
				t.Errorf("%d: Who of %d = %d, error %d", i, piece, n, e)
			}
		}
		for person := range c.t.Admits {
			if s, e := lend.Lost(c.t, person); s != (api.Span{}) || e != api.ErrState {
				t.Errorf("%d: Lost of %d = %v, error %d", i, person, s, e)
			}
		}
	}
	for i, x := range []api.Tale{
		example("- 1 -", ""), example("- 1 -", "25:b 60:C 10:d"), example("- 3 -", ""), example("0 0 0", ""), example("2 - 2", ""),
		tale(1, "-", "", ""), tale(1, "0", "", ""), tale(1, "-", "", "0:a M:A"), tale(1, "-", "", "M:a"), tale(1, "-", "", "5:a 6:A"), tale(1, "-", "", "6:A 5:a"), tale(2, "-", "", "5:a 5:B"), tale(16, "16", "0.5-6", ""), tale(16, "8 8", "0.5-6 1.8-9", "2: 3:"),
		tale(3, "1 -", "0.5-6 1.6-7", "5:bc 7:Abc M:bc"), tale(3, "- 1", "0.5-6 1.6-7", "5:bc 7:Abc M:bc"), tale(4, "1 1 -", "0.5-6 1.6-7 2.7-8", "8:cd 9:cd"), example("0 - 3", ""), tale(4, "2 1", "0.5-6 1.6-7", "4:abcd 7:ABCD"), tale(4, "2 1 1", ends, "1:AB 2:C 3:D"), full(),
	} {
		if n, e := lend.Clash(x); n != 0 || e != api.ErrNone {
			t.Errorf("%d: Clash = %d, error %d", i, n, e)
		}
	}
}

// P8.7, P9, P13: reports in every order; of two looks that cannot both be true, the later one is returned.
func TestEveryOrder(t *testing.T) {
	was := ask(example("- 1 -", ""), []int{9, 19, 25, 40})
	refuted := example("- 1 -", "25:a")
	for loans := range orders(example("- 1 -", "").Loans) {
		x := example("- 1 -", "")
		x.Loans = loans
		for looks := range orders(x.Looks) {
			x.Looks = looks
			if a := ask(x, []int{9, 19, 25, 40}); !a.equal(was) {
				t.Errorf("%v: %v, not %v", x, a, was)
			}
		}
	}
	for looks := range orders(refuted.Looks) {
		x := refuted
		x.Looks = looks
		want := max(slices.Index(looks, refuted.Looks[1]), slices.Index(looks, refuted.Looks[3]))
		if n, e := lend.Clash(x); n != want || e != api.OK {
			t.Errorf("%v: Clash = %d, error %d", x, n, e)
		}
	}
}

// The errors come in the order in which they are named.
func TestErrorsComeInTheirOrder(t *testing.T) {
	refuted := example("- 1 -", "25:a")
	for _, x := range []api.Tale{example("- 1 -", ""), refuted, example("- 4 -", ""), full(), tale(1, "-", "", "")} {
		for _, n := range badNumbers(api.MaxHour) {
			checkErrors(t, x, n, api.ErrRange)
		}
		for _, n := range badNumbers(x.Pieces) {
			if w, gone, e := lend.Window(x, n); w != (api.Span{}) || gone || e != api.ErrRange {
				t.Errorf("%v: Window of %d = %v, %v, error %d", x, n, w, gone, e)
			}
			if s, e := lend.Who(x, n); s != 0 || e != api.ErrRange {
				t.Errorf("%v: Who of %d = %d, error %d", x, n, s, e)
			}
		}
		for _, n := range badNumbers(len(x.Admits)) {
			if s, e := lend.Lost(x, n); s != (api.Span{}) || e != api.ErrRange {
				t.Errorf("%v: Lost of %d = %v, error %d", x, n, s, e)
			}
		}
	}
	// Of a piece that is as it must be, while another one is not, only the hours can be said.
	if w, gone, e := lend.Window(refuted, 1); w != span(25, 59) || !gone || e != api.OK {
		t.Errorf("Window = %v, %v, error %d", w, gone, e)
	}
	if n, e := lend.Who(refuted, 1); n != 0 || e != api.ErrState {
		t.Errorf("Who = %d, error %d", n, e)
	}
	for _, x := range badTales() {
		for _, n := range append(badNumbers(api.MaxHour), 0, 1, 2) {
			checkErrors(t, x, n, api.ErrArg)
		}
		if n, e := lend.Clash(x); n != 0 || e != api.ErrArg {
			t.Errorf("%v: Clash = %d, error %d", x, n, e)
		}
	}
}

// Limits.
func TestLimits(t *testing.T) {
	later := full()
	for i := range later.Loans {
		later.Loans[i].From += api.MaxHour - 115
		later.Loans[i].To += api.MaxHour - 115
	}
	for i := range later.Looks {
		later.Looks[i].Hour += api.MaxHour - 115
	}
	for i, x := range []api.Tale{
		full(), later, tale(1, "-", "", ""), tale(16, "16", "", ""), tale(1, "16 -", "", ""), tale(16, "- - - - - 0", "5.0-M", "M:abcdefghijklmnop"), {Pieces: 16, Admits: []int{16, 16, 16, 16, 16, -1}, Loans: eachHour(12), Looks: make([]api.Sight, 20)},
		tale(1, "-", "0.0-1 0.L-M", "0:a M:A"), tale(16, "-", "", "M:p M:P"), tale(1, "-", "0.5-6 0.7-8 0.6-7 0.8-9 0.4-5", ""), tale(2, "- -", "0.20-30 1.10-20 0.0-10 1.30-M", ""),
	} {
		if _, e := lend.Holder(x, 0); e != api.OK {
			t.Errorf("%d: Holder has the error %d", i, e)
		}
		if _, e := lend.Clash(x); e == api.ErrArg {
			t.Errorf("%d: Clash has the error %d", i, e)
		}
		for piece := range x.Pieces {
			_, _, e := lend.Window(x, piece)
			_, f := lend.Who(x, piece)
			if e == api.ErrArg || e == api.ErrRange || f == api.ErrArg || f == api.ErrRange {
				t.Errorf("%d: Window of %d has the error %d, Who %d", i, piece, e, f)
			}
		}
		for person := range x.Admits {
			if _, e := lend.Lost(x, person); e == api.ErrArg || e == api.ErrRange {
				t.Errorf("%d: Lost of %d has the error %d", i, person, e)
			}
		}
	}
	checkErrors(t, tale(17, "-", "", ""), 0, api.ErrArg)
	checkErrors(t, tale(0, "-", "", ""), 0, api.ErrArg)
	checkErrors(t, tale(3, "- - - - - - -", "", ""), 0, api.ErrArg)
	checkErrors(t, tale(3, "", "", ""), 0, api.ErrArg)
	checkErrors(t, api.Tale{Pieces: 16, Admits: []int{-1}, Loans: eachHour(13)}, 0, api.ErrArg)
	checkErrors(t, api.Tale{Pieces: 16, Admits: []int{-1}, Looks: make([]api.Sight, 21)}, 0, api.ErrArg)
}

// checkErrors checks that what is asked of an hour, a piece and a person of some number is refused.
func checkErrors(t *testing.T, x api.Tale, number int, want api.Errno) {
	t.Helper()
	n, e := lend.Holder(x, number)
	w, gone, f := lend.Window(x, number)
	if n != 0 || e != want || w != (api.Span{}) || gone || f != want {
		t.Errorf("%v: Holder of %d = %d, error %d, Window = %v, %v, error %d", x, number, n, e, w, gone, f)
	}
	who, e := lend.Who(x, number)
	s, f := lend.Lost(x, number)
	if who != 0 || e != want || s != (api.Span{}) || f != want {
		t.Errorf("%v: Who of %d = %d, error %d, Lost = %v, error %d", x, number, who, e, s, f)
	}
}
