package scale_test

import (
	"math"
	"slices"
	"testing"

	"jigworks/api"
	"jigworks/scale"
)

// P6.1.
func TestReads(t *testing.T) {
	one := api.Box{Kinds: kinds(3, 10, 12), Bag: span(5, 7), Lost: 4, Extra: 3}
	four := api.Box{Kinds: kinds(1, 1, 2, 0, 10, 20, 2, 100, 200, 3, 1000, 2000), Bag: span(0, 1), Lost: 4, Extra: 3}
	most := api.Box{Kinds: slices.Repeat(kinds(2000, 0, 100000), 4), Bag: span(0, 100000), Lost: 4, Extra: 3}
	for i, c := range []struct {
		b    api.Box
		has  []int
		t    api.Test
		want api.Span
		e    api.Errno
	}{
		{exampleBox(), []int{0, 0}, exampleF(), span(110450, 110740), api.OK}, {exampleBox(), []int{-1, 0}, exampleF(), span(109450, 109739), api.OK}, {exampleBox(), []int{-1, 0}, exampleC(), span(97, 99), api.OK},
		{exampleBox(), []int{0, -1}, exampleF(), span(108450, 108740), api.OK}, {exampleBox(), []int{1, -1}, exampleF(), span(109450, 109741), api.OK}, {exampleBox(), []int{0, 1}, exampleC(), span(99, 101), api.OK},
		// One kind alone: all pieces lost, and as many as can be too many.
		{one, []int{0}, weigh(span(0, 0)), span(35, 43), api.OK}, {one, []int{-3}, weigh(span(-2, 1)), span(3, 8), api.OK}, {one, []int{3}, weigh(span(2, 3)), span(67, 82), api.OK}, {one, []int{-2}, camera(1, span(0, 0)), span(1, 1), api.OK},
		{one, []int{-3}, camera(1, span(-9, -7)), span(-9, -7), api.OK}, {one, []int{3}, camera(1, span(-1, 2)), span(5, 8), api.OK},
		// Four kinds; one of no pieces, of which there can be some too many; a camera of no kinds, of one, of some and of all; its bag makes no difference to it.
		{four, []int{0, 0, 0, 0}, weigh(span(0, 0)), span(3201, 6403), api.OK}, {four, []int{-1, 2, -1, 1}, weigh(span(0, 0)), span(4120, 8241), api.OK}, {four, []int{-1, 0, -2, -1}, weigh(span(-1, 0)), span(1999, 4001), api.OK},
		{four, []int{-1, 2, -1, 1}, camera(0, span(-3, 4)), span(-3, 4), api.OK}, {four, []int{-1, 2, -1, 1}, camera(1, span(0, 0)), span(0, 0), api.OK}, {four, []int{-1, 2, -1, 1}, camera(2, span(0, 0)), span(2, 2), api.OK},
		{four, []int{-1, 2, -1, 1}, camera(4, span(0, 0)), span(1, 1), api.OK}, {four, []int{-1, 2, -1, 1}, camera(8, span(0, 0)), span(4, 4), api.OK}, {four, []int{-1, 2, -1, 1}, camera(9, span(0, 1)), span(4, 5), api.OK}, {four, []int{-1, 2, -1, 1}, camera(15, span(-1, 0)), span(6, 7), api.OK},
		{four, []int{1, 1, 1, 0}, camera(14, span(0, 0)), span(7, 7), api.OK},
		// The kinds of a scale, and what would pass, are not looked at.
		{one, []int{0}, api.Test{Kinds: -1}, span(35, 43), api.OK}, {one, []int{0}, api.Test{Kinds: math.MaxInt, Pass: span(-9, -9), Cost: 7}, span(35, 43), api.OK}, {one, []int{0}, api.Test{Kinds: 1, Pass: all()}, span(35, 43), api.OK},
		// Boxes of no pieces, of no weight; the greatest numbers.
		{boxOf(4, 3, 0), []int{0}, weigh(span(0, 0)), span(0, 0), api.OK}, {boxOf(4, 3, 0), []int{3}, camera(1, span(0, 0)), span(3, 3), api.OK}, {boxOf(4, 3, 2000), []int{-4}, weigh(span(0, 0)), span(0, 0), api.OK},
		{most, []int{3, 0, 0, 0}, weigh(span(-1000000, 1000000)), span(-1000000, 801400000), api.OK}, {most, []int{0, -4, 3, 0}, camera(15, span(-1000000, 1000000)), span(-992001, 1007999), api.OK},
		// Lists that the box cannot have: too short, too long, more lost, or too many, than can be, or than there are.
		{exampleBox(), nil, exampleF(), api.Span{}, api.ErrRange}, {exampleBox(), []int{0}, exampleF(), api.Span{}, api.ErrRange}, {exampleBox(), []int{0, 0, 0}, exampleF(), api.Span{}, api.ErrRange}, {one, []int{0, 0}, weigh(span(0, 0)), api.Span{}, api.ErrRange},
		{exampleBox(), []int{-2, 0}, exampleF(), api.Span{}, api.ErrRange}, {exampleBox(), []int{-1, -1}, exampleF(), api.Span{}, api.ErrRange}, {exampleBox(), []int{0, 2}, exampleF(), api.Span{}, api.ErrRange}, {exampleBox(), []int{1, 1}, exampleF(), api.Span{}, api.ErrRange},
		{exampleBox(), []int{-2, 1}, exampleF(), api.Span{}, api.ErrRange}, {exampleBox(), []int{2, -1}, exampleF(), api.Span{}, api.ErrRange}, {one, []int{-4}, weigh(span(0, 0)), api.Span{}, api.ErrRange}, {one, []int{4}, weigh(span(0, 0)), api.Span{}, api.ErrRange},
		{four, []int{0, -1, 0, 0}, weigh(span(0, 0)), api.Span{}, api.ErrRange}, {four, []int{-2, 0, 0, 0}, weigh(span(0, 0)), api.Span{}, api.ErrRange}, {four, []int{-1, 0, -2, -2}, weigh(span(0, 0)), api.Span{}, api.ErrRange}, {four, []int{1, 1, 1, 1}, weigh(span(0, 0)), api.Span{}, api.ErrRange},
		{boxOf(0, 3, 5), []int{-1}, weigh(span(0, 0)), api.Span{}, api.ErrRange}, {boxOf(4, 0, 5), []int{1}, weigh(span(0, 0)), api.Span{}, api.ErrRange}, {boxOf(4, 3, 5), []int{-5}, weigh(span(0, 0)), api.Span{}, api.ErrRange},
		{one, []int{math.MinInt}, weigh(span(0, 0)), api.Span{}, api.ErrRange}, {one, []int{math.MaxInt}, weigh(span(0, 0)), api.Span{}, api.ErrRange}, {four, []int{math.MinInt, math.MinInt, 0, 0}, weigh(span(0, 0)), api.Span{}, api.ErrRange}, {four, []int{math.MaxInt, math.MaxInt, 2, 0}, weigh(span(0, 0)), api.Span{}, api.ErrRange},
	} {
		if s, e := scale.Reads(c.b, c.has, c.t); s != c.want || e != c.e {
			t.Errorf("%d: Reads = %v, error %d", i, s, e)
		}
	}
}

// P6.2, P6.3.
func TestJudgeAndLeft(t *testing.T) {
	spans := func(l ...int) (out []api.Span) {
		for i := 0; i < len(l); i += 2 {
			out = append(out, span(l[i], l[i+1]))
		}
		return out
	}
	one := api.Box{Kinds: kinds(3, 10, 12), Bag: span(5, 7), Lost: 2, Extra: 1}
	two := boxOf(2, 2, 5, 5)
	exact := func(set int) api.Test { return camera(set, span(0, 0)) }
	for i, c := range []struct {
		b     api.Box
		l     []api.Reading
		judge int
		left  []api.Span
		e     api.Errno
	}{
		{exampleBox(), read(exampleC(), 98), api.WholePerhaps, spans(-1, 1, -1, 1), api.OK}, {exampleBox(), read(exampleC(), 100), api.WholePerhaps, spans(-1, 1, -1, 1), api.OK},
		{exampleBox(), read(exampleF(), 110600), api.WholeAlways, spans(0, 0, 0, 0), api.OK}, {exampleBox(), readings(read(exampleC(), 98), read(exampleF(), 109500)), api.WholeNever, spans(-1, 1, -1, 0), api.OK},
		{exampleBox(), read(exampleC(), 97), api.WholeNever, spans(-1, 0, -1, 0), api.OK}, {exampleBox(), read(exampleC(), 101), api.WholeAlways, spans(0, 1, 0, 1), api.OK}, {exampleBox(), read(exampleF(), 109450), api.WholeNever, spans(-1, 1, -1, 0), api.OK},
		{exampleBox(), read(exampleF(), 109740), api.WholeNever, spans(1, 1, -1, -1), api.OK}, {exampleBox(), read(exampleF(), 110449), 0, nil, api.ErrState}, {exampleBox(), read(exampleF(), 110450), api.WholeAlways, spans(0, 0, 0, 0), api.OK}, {exampleBox(), read(exampleF(), 110740), api.WholeAlways, spans(0, 0, 0, 0), api.OK},
		{exampleBox(), read(exampleF(), 110741), 0, nil, api.ErrState}, {exampleBox(), read(exampleF(), 111450), api.WholePerhaps, spans(-1, 1, 0, 1), api.OK}, {exampleBox(), read(exampleF(), 111449), 0, nil, api.ErrState}, {exampleBox(), read(exampleF(), 111740), api.WholeAlways, spans(1, 1, 0, 0), api.OK},
		// No readings: with none lost the box is complete; also if there are no pieces that could be lost.
		{exampleBox(), nil, api.WholePerhaps, spans(-1, 1, -1, 1), api.OK}, {exampleBox(), []api.Reading{}, api.WholePerhaps, spans(-1, 1, -1, 1), api.OK}, {boxOf(0, 0, 5), nil, api.WholeAlways, spans(0, 0), api.OK}, {boxOf(0, 3, 5), nil, api.WholeAlways, spans(0, 3), api.OK},
		{boxOf(4, 0, 0, 0), nil, api.WholeAlways, spans(0, 0, 0, 0), api.OK}, {boxOf(4, 3, 0, 2, 9), nil, api.WholePerhaps, spans(0, 3, -2, 3, -4, 3), api.OK}, {boxOf(4, 3, 1, 2, 3, 4), nil, api.WholePerhaps, spans(-1, 3, -2, 3, -3, 3, -4, 3), api.OK},
		// One kind alone: complete always, perhaps, never; what no list fits.
		{one, read(weigh(span(0, 0)), 34), 0, nil, api.ErrState}, {one, read(weigh(span(0, 0)), 35), api.WholeAlways, spans(0, 0), api.OK}, {one, read(weigh(span(0, 0)), 31), api.WholeNever, spans(-1, -1), api.OK}, {one, read(weigh(span(-4, 0)), 31), api.WholePerhaps, spans(-1, 0), api.OK},
		{one, read(weigh(span(-4, 0)), 30), api.WholeNever, spans(-1, -1), api.OK}, {one, read(weigh(span(0, 0)), 14), 0, nil, api.ErrState}, {one, read(weigh(span(0, 0)), 15), api.WholeNever, spans(-2, -2), api.OK}, {one, read(weigh(span(-20, 20)), 35), api.WholePerhaps, spans(-2, 1), api.OK},
		{one, read(weigh(span(0, 0)), 44), 0, nil, api.ErrState}, {one, read(weigh(span(0, 0)), 55), api.WholeAlways, spans(1, 1), api.OK}, {one, read(weigh(span(0, 0)), 56), 0, nil, api.ErrState}, {one, read(weigh(span(-5, -1)), 9), 0, nil, api.ErrState}, {one, read(weigh(span(-5, -1)), 10), api.WholeNever, spans(-2, -2), api.OK},
		// As many too many as are lost; a number that is met in several lists.
		{two, read(exact(3), 10), api.WholePerhaps, spans(-2, 2, -2, 2), api.OK}, {two, read(exact(3), 9), api.WholeNever, spans(-2, 1, -2, 1), api.OK}, {two, read(exact(3), 11), api.WholePerhaps, spans(-1, 2, -1, 2), api.OK}, {two, read(exact(3), 12), api.WholeAlways, spans(0, 2, 0, 2), api.OK},
		{two, read(exact(3), 7), 0, nil, api.ErrState}, {two, read(exact(3), 13), 0, nil, api.ErrState}, {two, read(exact(1), 4), api.WholeNever, spans(-1, -1, -1, 2), api.OK}, {two, read(exact(1), 3), api.WholeNever, spans(-2, -2, 0, 2), api.OK}, {two, read(exact(2), 6), api.WholePerhaps, spans(-2, 1, 1, 1), api.OK},
		{two, readings(read(exact(1), 5), read(exact(2), 5)), api.WholeAlways, spans(0, 0, 0, 0), api.OK}, {two, readings(read(exact(3), 10), read(exact(2), 6)), api.WholeNever, spans(-1, -1, 1, 1), api.OK}, {two, readings(read(exact(1), 4), read(exact(2), 4), read(exact(3), 8)), api.WholeNever, spans(-1, -1, -1, -1), api.OK},
		// A camera of no kinds says nothing, if it reads its error; readings that no list fits together, though each one alone.
		{two, read(camera(0, span(-1, 1)), -1, 0, 1), api.WholePerhaps, spans(-2, 2, -2, 2), api.OK}, {two, read(camera(0, span(-1, 1)), 2), 0, nil, api.ErrState}, {two, read(exact(3), 10, 9), 0, nil, api.ErrState}, {two, readings(read(exact(1), 6), read(exact(2), 6), read(exact(3), 11)), 0, nil, api.ErrState},
		// Each reading is of a truth of its own: pieces that weigh much in one and little in another.
		{boxOf(1, 0, 2), read(camera(1, span(-1, 0)), 1), api.WholePerhaps, spans(-1, 0), api.OK}, {boxOf(1, 0, 2), read(camera(1, span(-1, 0)), 1, 0), api.WholeNever, spans(-1, -1), api.OK}, {api.Box{Kinds: kinds(1, 0, 9), Lost: 1}, read(weigh(span(0, 0)), 0, 9), api.WholeAlways, spans(0, 0), api.OK},
		{api.Box{Kinds: kinds(1, 0, 9), Lost: 1}, read(weigh(span(0, 0)), 0), api.WholePerhaps, spans(-1, 0), api.OK},
		// A reading that is there twice, or as often as can be; any number can be read.
		{exampleBox(), read(exampleC(), 97, 97), api.WholeNever, spans(-1, 0, -1, 0), api.OK}, {exampleBox(), read(exampleC(), slices.Repeat([]int{98}, 16)...), api.WholePerhaps, spans(-1, 1, -1, 1), api.OK},
		{exampleBox(), read(exampleC(), math.MaxInt), 0, nil, api.ErrState}, {exampleBox(), read(exampleF(), math.MinInt), 0, nil, api.ErrState}, {exampleBox(), read(exampleF(), -1), 0, nil, api.ErrState},
		// What would pass makes no difference to what was read.
		{exampleBox(), read(passing(exampleC(), span(-9, -9), 3), 101), api.WholeAlways, spans(0, 1, 0, 1), api.OK},
	} {
		if n, e := scale.Judge(c.b, c.l); n != c.judge || e != c.e {
			t.Errorf("%d: Judge = %d, error %d", i, n, e)
		}
		if l, e := scale.Left(c.b, c.l); !slices.Equal(l, c.left) || e != c.e {
			t.Errorf("%d: Left = %v, error %d", i, l, e)
		}
	}
}

// pass returns a test that only what is read from lo to hi passes.
func pass(t api.Test, lo, hi, cost int) api.Test { return passing(t, span(lo, hi), cost) }

// P6.4, P6.5.
func TestSlipsAndEnough(t *testing.T) {
	c, r, f := exampleC(), exampleR(), exampleF()
	exact := func(set int) api.Test { return camera(set, span(0, 0)) }
	two := boxOf(2, 2, 5, 5)
	each := []api.Test{pass(exact(1), 5, 7, 3), pass(exact(2), 5, 7, 3), pass(exact(3), 10, 12, 3), pass(exact(1), 5, 9, 3)}
	free := slices.Repeat([]api.Test{pass(exact(1), 5, 5, 0)}, 8)
	heavy := api.Box{Kinds: kinds(2, 3, 4), Bag: span(1, 2), Lost: 2}
	for i, x := range []struct {
		b         api.Box
		tests     []api.Test
		slips     []int
		set, cost int
		e         api.Errno // of Enough
	}{
		{exampleBox(), []api.Test{c}, []int{-1, 0}, 0, 0, api.ErrNone}, {exampleBox(), []api.Test{c, r}, []int{-1, 0}, 0, 0, api.ErrNone}, {exampleBox(), []api.Test{f}, nil, 1, 10, api.OK}, {exampleBox(), []api.Test{c, r, f}, nil, 4, 10, api.OK},
		{exampleBox(), []api.Test{f, c, f}, nil, 1, 10, api.OK}, {exampleBox(), []api.Test{passing(f, f.Pass, 11), f}, nil, 2, 10, api.OK}, {exampleBox(), []api.Test{pass(c, 99, 100, 1)}, []int{-1, 0}, 0, 0, api.ErrNone}, {exampleBox(), []api.Test{pass(c, 101, 110, 1)}, nil, 1, 1, api.OK},
		{exampleBox(), []api.Test{pass(c, 100, 101, 1)}, []int{-1, 1}, 0, 0, api.ErrNone}, {exampleBox(), []api.Test{pass(c, 100, 101, 1), pass(r, 109500, 110499, 2)}, []int{1, -1}, 0, 0, api.ErrNone}, {exampleBox(), []api.Test{pass(exact(1), 90, 91, 5), pass(exact(2), 10, 11, 6)}, nil, 3, 11, api.OK},
		{exampleBox(), []api.Test{pass(exact(1), 90, 91, 5), c}, []int{0, -1}, 0, 0, api.ErrNone},
		// No tests: any box slips through, but for one that is always complete; then no test is needed.
		{exampleBox(), nil, []int{-1, 0}, 0, 0, api.ErrNone}, {exampleBox(), []api.Test{}, []int{-1, 0}, 0, 0, api.ErrNone}, {boxOf(0, 3, 5), nil, nil, 0, 0, api.OK}, {boxOf(0, 3, 5), []api.Test{pass(exact(1), 0, 9, 4)}, nil, 0, 0, api.OK},
		{boxOf(4, 3, 0, 0), []api.Test{weigh(span(0, 0))}, nil, 0, 0, api.OK}, {boxOf(4, 3, 0, 1), nil, []int{0, -1}, 0, 0, api.ErrNone}, {boxOf(4, 3, 2, 0, 1), nil, []int{-2, 0, -1}, 0, 0, api.ErrNone}, {boxOf(4, 3, 9), nil, []int{-4}, 0, 0, api.ErrNone},
		{boxOf(4, 0, 1, 1, 1, 1), nil, []int{-1, -1, -1, -1}, 0, 0, api.ErrNone}, {boxOf(1, 0, 1, 1, 1, 1), nil, []int{-1, 0, 0, 0}, 0, 0, api.ErrNone}, {boxOf(1, 0, 0, 0, 0, 1), nil, []int{0, 0, 0, -1}, 0, 0, api.ErrNone},
		// A camera of no kinds, which all pass, or none: also no complete box.
		{two, []api.Test{pass(exact(0), 0, 0, 2)}, []int{-2, 0}, 0, 0, api.ErrNone}, {two, []api.Test{pass(exact(0), 1, 2, 2)}, nil, 1, 2, api.OK}, {two, []api.Test{pass(camera(0, span(-1, 1)), 1, 2, 2)}, []int{-2, 0}, 0, 0, api.ErrNone},
		// Lost and extra pieces together.
		{two, []api.Test{pass(exact(3), 10, 12, 1)}, []int{-2, 2}, 0, 0, api.ErrNone}, {two, []api.Test{pass(exact(3), 11, 12, 1)}, []int{-1, 2}, 0, 0, api.ErrNone}, {two, []api.Test{pass(exact(3), 12, 12, 1)}, nil, 1, 1, api.OK}, {two, []api.Test{pass(exact(1), 5, 7, 1)}, []int{0, -2}, 0, 0, api.ErrNone},
		{two, []api.Test{pass(exact(1), 5, 7, 1), pass(exact(3), 11, 12, 1)}, []int{2, -1}, 0, 0, api.ErrNone}, {two, []api.Test{pass(exact(1), 4, 7, 1), pass(exact(3), 8, 9, 1)}, []int{-1, -1}, 0, 0, api.ErrNone}, {two, []api.Test{pass(exact(1), 4, 7, 1), pass(exact(3), 9, 9, 1)}, []int{-1, 0}, 0, 0, api.ErrNone},
		// Several sets that cost as much: the one with the least number.
		{two, each[:2], nil, 3, 6, api.OK}, {two, each, nil, 3, 6, api.OK}, {two, []api.Test{each[2], each[1], each[0], each[3]}, nil, 6, 6, api.OK}, {two, []api.Test{each[0], each[3], each[1]}, nil, 5, 6, api.OK},
		{two, []api.Test{pass(exact(3), 12, 12, 6), each[0], each[1]}, nil, 1, 6, api.OK}, {two, []api.Test{each[0], each[1], pass(exact(3), 12, 12, 6)}, nil, 3, 6, api.OK}, {two, []api.Test{each[0], each[1], pass(exact(3), 12, 12, 5)}, nil, 4, 5, api.OK},
		{two, []api.Test{each[0], each[1], pass(exact(3), 12, 12, 7)}, nil, 3, 6, api.OK},
		// Tests of no cost: no more of them than must be, as the least number says.
		{boxOf(1, 0, 5), free, nil, 1, 0, api.OK}, {boxOf(1, 0, 5), append([]api.Test{pass(exact(0), 0, 0, 0)}, free[1:]...), nil, 2, 0, api.OK}, {two, []api.Test{pass(exact(3), 12, 12, 5), pass(exact(0), 0, 0, 0), pass(exact(1), 5, 7, 0), pass(exact(2), 5, 7, 0)}, nil, 12, 0, api.OK},
		{two, []api.Test{pass(exact(0), 1, 1, 5), pass(exact(0), 1, 1, 0)}, nil, 2, 0, api.OK}, {boxOf(0, 0, 5), free, nil, 0, 0, api.OK},
		// Pieces and a bag whose weights are spans: a lost piece hides behind a heavy bag, and an error.
		{heavy, []api.Test{pass(weigh(span(0, 0)), 7, 10, 1)}, nil, 1, 1, api.OK}, {heavy, []api.Test{pass(weigh(span(0, 0)), 6, 10, 1)}, []int{-1}, 0, 0, api.ErrNone}, {heavy, []api.Test{pass(weigh(span(0, 1)), 7, 10, 1)}, []int{-1}, 0, 0, api.ErrNone}, {heavy, []api.Test{pass(weigh(span(0, 1)), 8, 10, 1)}, nil, 1, 1, api.OK},
		{heavy, []api.Test{pass(weigh(span(0, 5)), 7, 10, 1)}, []int{-2}, 0, 0, api.ErrNone}, {heavy, []api.Test{pass(weigh(span(0, 4)), 7, 10, 1)}, []int{-1}, 0, 0, api.ErrNone}, {heavy, []api.Test{pass(weigh(span(-9, -4)), 2, 3, 1)}, []int{-1}, 0, 0, api.ErrNone}, {heavy, []api.Test{pass(weigh(span(-9, -4)), 3, 6, 1)}, nil, 1, 1, api.OK},
		{heavy, []api.Test{pass(weigh(span(0, 0)), 3, 3, 1)}, nil, 1, 1, api.OK}, {heavy, []api.Test{pass(weigh(span(0, 0)), 2, 3, 1)}, []int{-2}, 0, 0, api.ErrNone}, {heavy, []api.Test{pass(weigh(span(0, 0)), 4, 4, 1)}, []int{-1}, 0, 0, api.ErrNone}, {heavy, []api.Test{pass(weigh(span(0, 0)), math.MinInt, 1, 1)}, []int{-2}, 0, 0, api.ErrNone},
		{heavy, []api.Test{pass(weigh(span(0, 0)), math.MinInt, 0, 1)}, nil, 1, 1, api.OK}, {heavy, []api.Test{pass(weigh(span(0, 0)), 6, math.MaxInt, 1)}, []int{-1}, 0, 0, api.ErrNone}, {heavy, []api.Test{pass(weigh(span(0, 0)), 7, math.MaxInt, 1)}, nil, 1, 1, api.OK},
		// Each test is passed in a truth of its own.
		{boxOf(1, 0, 5), []api.Test{pass(camera(1, span(0, 1)), 5, 5, 1), pass(camera(1, span(0, 1)), 4, 4, 1)}, []int{-1}, 0, 0, api.ErrNone},
		// The greatest cost.
		{boxOf(1, 0, 5), []api.Test{pass(exact(1), 5, 5, 10000)}, nil, 1, 10000, api.OK},
	} {
		want := api.OK
		if x.slips == nil {
			want = api.ErrNone
		}
		if has, e := scale.Slips(x.b, x.tests); !slices.Equal(has, x.slips) || e != want {
			t.Errorf("%d: Slips = %v, error %d", i, has, e)
		}
		if set, cost, e := scale.Enough(x.b, x.tests); set != x.set || cost != x.cost || e != x.e {
			t.Errorf("%d: Enough = %d, %d, error %d", i, set, cost, e)
		}
	}
}

// P6.6.
func TestNext(t *testing.T) {
	c, f := exampleC(), exampleF()
	exact := func(set, cost int) api.Test { return passing(camera(set, span(0, 0)), span(0, 0), cost) }
	two, one := boxOf(2, 2, 5, 5), boxOf(1, 1, 5)
	for i, x := range []struct {
		b     api.Box
		l     []api.Reading
		tests []api.Test
		want  int
		e     api.Errno
	}{
		{exampleBox(), read(c, 98), exampleTests(), 2, api.OK}, {exampleBox(), read(c, 98), exampleTests()[:2], 0, api.ErrNone},
		// No doubt: complete always, never, and no list that fits.
		{exampleBox(), read(c, 101), exampleTests(), 0, api.ErrState}, {exampleBox(), read(c, 97), exampleTests(), 0, api.ErrState}, {exampleBox(), read(c, 1), exampleTests(), 0, api.ErrState}, {boxOf(0, 1, 5), nil, []api.Test{exact(1, 0)}, 0, api.ErrState}, {boxOf(0, 1, 5), nil, nil, 0, api.ErrState},
		// No tests, no readings: a test that would settle a doubt after some reading does not without it.
		{exampleBox(), read(c, 98), nil, 0, api.ErrNone}, {exampleBox(), nil, exampleTests(), 0, api.ErrNone}, {exampleBox(), nil, nil, 0, api.ErrNone}, {one, nil, []api.Test{exact(1, 3)}, 0, api.OK}, {two, nil, []api.Test{exact(1, 3), exact(2, 3), exact(3, 3)}, 0, api.ErrNone},
		{two, read(exact(1, 0), 5), []api.Test{exact(1, 3), exact(2, 4), exact(3, 5)}, 1, api.OK}, {two, read(exact(1, 0), 6), []api.Test{exact(1, 3), exact(2, 5), exact(3, 4)}, 2, api.OK}, {two, read(exact(3, 0), 11), []api.Test{exact(3, 3), exact(2, 5), exact(1, 4)}, 2, api.OK}, {two, read(exact(3, 0), 11), []api.Test{exact(3, 3), exact(0, 5)}, 0, api.ErrNone},
		{two, read(exact(2, 0), 6), []api.Test{exact(1, 3), exact(2, 5)}, 0, api.OK},
		// The cheapest, and of several the first one; none may cost anything.
		{one, nil, []api.Test{exact(1, 3), exact(1, 2), exact(1, 2), exact(1, 4)}, 1, api.OK}, {one, nil, []api.Test{exact(0, 0), exact(1, 2), exact(1, 2)}, 1, api.OK}, {one, nil, []api.Test{exact(1, 1), exact(1, 0), exact(1, 0)}, 1, api.OK}, {one, nil, slices.Repeat([]api.Test{exact(1, 7)}, 8), 0, api.OK},
		{one, nil, append(slices.Repeat([]api.Test{exact(0, 0)}, 7), exact(1, 10000)), 7, api.OK},
		// Errors: the numbers of complete boxes and of others touch, or do not; also below 0.
		{one, nil, []api.Test{camera(1, span(0, 1))}, 0, api.ErrNone}, {one, nil, []api.Test{camera(1, span(-9, -9))}, 0, api.OK}, {one, nil, []api.Test{camera(1, span(-9, -8))}, 0, api.ErrNone},
		{api.Box{Kinds: kinds(2, 3, 4), Bag: span(1, 2), Lost: 2}, nil, []api.Test{weigh(span(0, 1)), weigh(span(-1, -1))}, 1, api.OK}, {api.Box{Kinds: kinds(2, 3, 4), Bag: span(1, 3), Lost: 2}, nil, []api.Test{weigh(span(0, 0))}, 0, api.ErrNone},
		// A test that settles a doubt reads a number of a complete box above those of one that is not, or below, or between.
		{api.Box{Kinds: kinds(1, 1, 1, 1, 5, 5), Lost: 1, Extra: 1}, read(exact(3, 0), 2), []api.Test{weigh(span(0, 0)), weigh(span(-1, 1)), weigh(span(-2, 1)), weigh(span(-2, 2))}, 0, api.OK},
		{api.Box{Kinds: kinds(1, 1, 1, 1, 5, 5), Lost: 1, Extra: 1}, read(exact(3, 0), 2), []api.Test{weigh(span(-2, 2)), weigh(span(-2, 1))}, 1, api.OK},
		{exampleBox(), read(c, 98), []api.Test{passing(f, span(0, 0), 10), passing(f, all(), 10)}, 0, api.OK},
	} {
		if n, e := scale.Next(x.b, x.l, x.tests); n != x.want || e != x.e {
			t.Errorf("%d: Next = %d, error %d", i, n, e)
		}
	}
}

// checkErrors checks that all functions that are given a box, and those readings and tests, return an error and nothing else.
func checkErrors(t *testing.T, b api.Box, l []api.Reading, tests []api.Test, ofReadings, ofTests, ofBoth api.Errno) {
	t.Helper()
	if n, e := scale.Judge(b, l); n != 0 || e != ofReadings {
		t.Errorf("%v, %v: Judge = %d, error %d, not %d", b, l, n, e, ofReadings)
	}
	if s, e := scale.Left(b, l); len(s) != 0 || e != ofReadings {
		t.Errorf("%v, %v: Left = %v, error %d, not %d", b, l, s, e, ofReadings)
	}
	if has, e := scale.Slips(b, tests); len(has) != 0 || e != ofTests {
		t.Errorf("%v, %v: Slips = %v, error %d, not %d", b, tests, has, e, ofTests)
	}
	if set, cost, e := scale.Enough(b, tests); set != 0 || cost != 0 || e != ofTests {
		t.Errorf("%v, %v: Enough = %d, %d, error %d, not %d", b, tests, set, cost, e, ofTests)
	}
	if n, e := scale.Next(b, l, tests); n != 0 || e != ofBoth {
		t.Errorf("%v, %v, %v: Next = %d, error %d, not %d", b, l, tests, n, e, ofBoth)
	}
}

// The box comes first, then too many tests or readings, then those that are not valid, then all other errors.
func TestErrorsComeInTheirOrder(t *testing.T) {
	many := slices.Repeat(exampleTests(), 3)
	long := slices.Repeat(read(exampleC(), 1), api.MaxReadings+1)
	bad := badTests()
	for _, b := range badBoxes() {
		for _, has := range [][]int{nil, {0, 0}, {-9, 9}} {
			if s, e := scale.Reads(b, has, exampleF()); s != (api.Span{}) || e != api.ErrArg {
				t.Errorf("%v: Reads = %v, error %d", b, s, e)
			}
		}
		checkErrors(t, b, nil, nil, api.ErrArg, api.ErrArg, api.ErrArg)
		checkErrors(t, b, long, many, api.ErrArg, api.ErrArg, api.ErrArg)
		checkErrors(t, b, read(bad[0], 0), bad[:1], api.ErrArg, api.ErrArg, api.ErrArg)
	}
	for _, x := range bad {
		for _, has := range [][]int{nil, {0, 0}, {-9, 9}} {
			if s, e := scale.Reads(exampleBox(), has, x); s != (api.Span{}) || e != api.ErrArg {
				t.Errorf("%v: Reads = %v, error %d", x, s, e)
			}
		}
		for _, l := range [][]api.Reading{read(x, 0), append(read(exampleC(), 98, 1), read(x, 0)...), append(read(x, 0), read(exampleC(), 98)...)} {
			for _, tests := range [][]api.Test{{x}, append(exampleTests(), x), {x, exampleF()}} {
				checkErrors(t, exampleBox(), l, tests, api.ErrArg, api.ErrArg, api.ErrArg)
			}
		}
		if n, e := scale.Next(exampleBox(), read(exampleC(), 98), []api.Test{exampleF(), x}); n != 0 || e != api.ErrArg {
			t.Errorf("%v: Next = %d, error %d", x, n, e)
		}
		if n, e := scale.Next(exampleBox(), read(x, 98), exampleTests()); n != 0 || e != api.ErrArg {
			t.Errorf("%v: Next = %d, error %d", x, n, e)
		}
		checkErrors(t, exampleBox(), append(long, read(x, 0)...), append([]api.Test{x}, many...), api.ErrLong, api.ErrLong, api.ErrLong)
		checkErrors(t, exampleBox(), append(read(x, 0), long...), []api.Test{x}, api.ErrLong, api.ErrArg, api.ErrLong)
		checkErrors(t, exampleBox(), read(x, 0), append(many, x), api.ErrArg, api.ErrLong, api.ErrLong)
	}
}

// What is just within the limits is valid, and with one more it is not.
func TestLimits(t *testing.T) {
	most := api.Box{Kinds: slices.Repeat(kinds(api.MaxOf, 0, api.MaxHeavy), api.MaxBoxKinds), Bag: span(0, api.MaxHeavy), Lost: api.MaxLost, Extra: api.MaxExtra}
	least := boxOf(0, 0, 0)
	for _, b := range []api.Box{most, least} {
		top := 1<<len(b.Kinds) - 1
		for _, x := range []api.Test{
			weigh(span(-api.MaxErr, api.MaxErr)), weigh(span(api.MaxErr, api.MaxErr)), weigh(span(-api.MaxErr, -api.MaxErr)), camera(top, span(-api.MaxErr, api.MaxErr)), camera(0, span(0, 0)),
			passing(weigh(span(0, 0)), span(math.MaxInt, math.MaxInt), api.MaxTestCost), passing(camera(top, span(0, 0)), span(math.MinInt, math.MinInt), 0), passing(camera(1, span(0, 0)), span(5, 5), 1), {How: api.TestScale, Kinds: top + 1}, {How: api.TestScale, Kinds: math.MinInt},
		} {
			if _, e := scale.Reads(b, make([]int, len(b.Kinds)), x); e != api.OK {
				t.Errorf("%v: Reads has the error %d", x, e)
			}
			l, tests := slices.Repeat(read(x, 0), api.MaxReadings), slices.Repeat([]api.Test{x}, api.MaxTests)
			if _, e := scale.Judge(b, l); e != api.OK && e != api.ErrState {
				t.Errorf("%v: Judge has the error %d", x, e)
			}
			if _, e := scale.Left(b, l); e != api.OK && e != api.ErrState {
				t.Errorf("%v: Left has the error %d", x, e)
			}
			if _, e := scale.Slips(b, tests); e != api.OK && e != api.ErrNone {
				t.Errorf("%v: Slips has the error %d", x, e)
			}
			if _, _, e := scale.Enough(b, tests); e != api.OK && e != api.ErrNone {
				t.Errorf("%v: Enough has the error %d", x, e)
			}
			if _, e := scale.Next(b, l, tests); e != api.ErrNone && e != api.ErrState {
				t.Errorf("%v: Next has the error %d", x, e)
			}
			checkErrors(t, b, append(l, l[0]), append(tests, x), api.ErrLong, api.ErrLong, api.ErrLong)
			if n, e := scale.Next(b, append(l, l[0]), tests); n != 0 || e != api.ErrLong {
				t.Errorf("%v: Next = %d, error %d", x, n, e)
			}
			if n, e := scale.Next(b, l, append(tests, x)); n != 0 || e != api.ErrLong {
				t.Errorf("%v: Next = %d, error %d", x, n, e)
			}
		}
	}
	if s, e := scale.Left(most, nil); !slices.Equal(s, slices.Repeat([]api.Span{span(-4, 3)}, 4)) || e != api.OK {
		t.Errorf("Left = %v, error %d", s, e)
	}
	if set, cost, e := scale.Enough(most, slices.Repeat([]api.Test{passing(camera(15, span(0, 0)), span(8003, 8003), 10000)}, 8)); set != 1 || cost != 10000 || e != api.OK {
		t.Errorf("Enough = %d, %d, error %d", set, cost, e)
	}
}
