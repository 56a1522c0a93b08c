package holding_test

import (
	"math"
	"testing"

	"distraint/api"
	"distraint/holding"
)

// finds: the class of s in h, valid or not, has this pool; or there is none.
func finds(t *testing.T, h api.Holding, s api.Stamp, want api.Pool, in bool) {
	t.Helper()
	if model := wantFind(h, s); model.pool != want || model.is != in {
		t.Errorf("Find(%s, %v): the model: %v, %v; want %v, %v", brief(h), s, model.pool, model.is, want, in)
	}
	mine := roomy(h)
	if p, is := holding.Find(mine, s); p != want || is != in {
		t.Errorf("Find(%s, %v): %v, %v; want %v, %v", brief(h), s, p, is, want, in)
	}
	if !same(entire(mine), entire(roomy(h))) {
		t.Errorf("Find changed %s, or what is behind it", brief(h))
	}
}

// TestFind: P13.5: each class of valid holdings, and stamps that differ in one number.
func TestFind(t *testing.T) {
	for _, h := range valids() {
		for _, c := range h.Classes {
			finds(t, h, c.Stamp, c.Pool, true)
		}
		finds(t, h, api.Stamp{}, api.Pool{}, false)
		finds(t, h, bare(spare, 1), api.Pool{}, false)
	}
	for _, s := range []api.Stamp{bare(2, 4), bare(2, 6), bare(3, 5), bare(1, 5), hopped(2, 5, 0, 0), hopped(2, 5, -1, 1), hopped(2, 5, -2, 0), hopped(2, 5, 1, 3), {Validator: 2, Since: 5}} {
		finds(t, begun(), s, api.Pool{}, false)
	}
}

// TestFindAny: P13.5: of any holding: with classes out of order, of stamps that are none, with several ones of a stamp, without positions, and with empty pools.
func TestFindAny(t *testing.T) {
	a, b, c := bare(2, 5), bare(3, 6), api.Stamp{}
	h := of(classes(class(b, 7, 7), class(a, 5, 6), class(c, 1, 0), class(a, 20, 20), class(b, 0, 0), class(c, m, m)), part(-1, a, 0))
	finds(t, h, a, pool(5, 6), true)
	finds(t, h, b, pool(7, 7), true)
	finds(t, h, c, pool(1, 0), true)
	finds(t, h, bare(4, 1), api.Pool{}, false)
	twice := of(classes(class(a, 5, 6), class(a, 20, 20)))
	finds(t, twice, a, pool(5, 6), true)
	finds(t, of(classes(class(a, 0, 0), class(a, 20, 20))), a, api.Pool{}, true)
	finds(t, of(classes(class(a, 20, 20), class(a, 5, 6), class(a, 0, 0))), a, pool(20, 20), true)
	for _, s := range invalidStamps() {
		finds(t, of(classes(class(a, 1, 1), class(s, 3, 4), class(b, 2, 2))), s, pool(3, 4), true)
		finds(t, of(classes(class(a, 1, 1), class(b, 2, 2))), s, api.Pool{}, false)
	}
	down := api.Holding{}
	for i := range 2000 {
		down.Classes = append(down.Classes, class(bare(-i, 5), uint64(i), 1))
	}
	for i := range 2000 {
		finds(t, down, bare(-i, 5), pool(uint64(i), 1), true)
	}
	finds(t, down, bare(-2000, 5), api.Pool{}, false)
}

// TestValue: P13.5: what a position is worth, rounded down, and that there is none.
func TestValue(t *testing.T) {
	a, d, e := bare(1, 4), hopped(2, 7, 1, 4), bare(31, top)
	h := rich() // 4 and 6 of 10 for 9; 60 for 50; 7 and m - 7 of m for 1000
	for _, x := range []struct {
		owner int
		s     api.Stamp
		want  told
	}{
		{0, a, told{n: 3}}, {62, a, told{n: 5}}, {0, d, told{n: 50}}, {3, hopped(1, 9, 0, 2), told{n: 99}}, {63, hopped(1, 9, 0, 2), told{n: 0}}, {3, hopped(1, 9, 2, 3), told{n: 1}}, {3, e, told{n: 0}}, {63, e, told{n: 999}},
		{3, a, refused(api.ErrUnknown)}, {1, a, refused(api.ErrUnknown)}, {63, a, refused(api.ErrUnknown)}, {0, bare(1, 5), refused(api.ErrUnknown)}, {0, bare(2, 7), refused(api.ErrUnknown)}, {0, api.Stamp{}, refused(api.ErrUnknown)},
	} {
		value(x.owner, x.s).is(t, h, x.want)
	}
	for _, owner := range strangers() {
		value(owner, a).is(t, h, refused(api.ErrUnknown))
		value(owner, a).is(t, api.Holding{}, refused(api.ErrUnknown))
	}
	for _, s := range invalidStamps() {
		value(0, s).is(t, h, refused(api.ErrUnknown))
	}
	value(5, a).is(t, alone(a, most, m), told{n: most})
	value(5, a).is(t, alone(a, most, most), told{n: most})
}

// TestOwn: P13.5: what all positions of an owner with a validator are worth, each rounded down by itself; whom a lot backed before does not count.
func TestOwn(t *testing.T) {
	h := rich()
	for _, x := range []struct {
		owner, v int
		n        uint64
	}{
		{0, 1, 3}, {0, 2, 50}, {0, 0, 0}, {0, 31, 0}, {3, 1, 100}, {3, 31, 0}, {3, 2, 0}, {62, 1, 5}, {63, 1, 0}, {63, 31, 999}, {1, 1, 0}, {0, 3, 0},
		{-1, 1, 0}, {64, 1, 0}, {0, -1, 0}, {0, 32, 0}, {math.MinInt, math.MinInt, 0}, {math.MaxInt, math.MaxInt, 0},
	} {
		own(x.owner, x.v).is(t, h, told{n: x.n})
	}
	// Two halves are worth nothing each: they are not added before they are rounded.
	a, b := bare(1, 4), bare(1, 5)
	halves := of(classes(class(a, 5, 10), class(b, 5, 10)), part(0, a, 1), part(0, b, 1), part(1, a, 9), part(1, b, 9))
	own(0, 1).is(t, halves, told{})
	own(1, 1).is(t, halves, told{n: 8})
	own(5, 2).is(t, alone(bare(2, 5), most, m), told{n: most})
	own(0, 0).is(t, api.Holding{}, told{})
}

// TestTokens: P13.5: the tokens of the classes that back a validator, and of all; whom a class backed before does not count.
func TestTokens(t *testing.T) {
	for v, n := range map[int]uint64{0: 0, 1: 110, 2: 50, 3: 0, 30: 0, 31: 1000, -1: 0, 32: 0, 64: 0, math.MinInt: 0, math.MaxInt: 0} {
		tokens(v).is(t, rich(), told{n: n})
		tokens(v).is(t, api.Holding{}, told{})
	}
	total().is(t, rich(), told{n: 1160})
	total().is(t, api.Holding{}, told{})
	s := bare(2, 5)
	halves := of(classes(class(s, most/2, most/2), class(bare(2, 6), most/2-1, most/2), class(bare(3, 1), 1, 1)), part(0, s, most/2), part(0, bare(2, 6), most/2), part(0, bare(3, 1), 1))
	tokens(2).is(t, halves, told{n: most - 1})
	total().is(t, halves, told{n: most})
}

// TestOf: P13.5: an owner's positions, in order; none of who has none, or is no account.
func TestOf(t *testing.T) {
	h := rich()
	for owner, l := range map[int][]api.Position{0: h.Positions[:2], 3: h.Positions[2:5], 62: h.Positions[5:6], 63: h.Positions[6:], 1: nil, 4: nil, 61: nil} {
		belonging(owner).is(t, h, told{positions: l})
	}
	for _, owner := range strangers() {
		belonging(owner).is(t, h, told{})
		belonging(owner).is(t, api.Holding{}, told{})
	}
	f := full(short, one)
	belonging(0).is(t, f, told{positions: f.Positions[:1024]})
	belonging(63).is(t, f, told{positions: f.Positions[64512:]})
}

// TestExposed: P13.5: the classes that backed a validator at a height, by the bounds of their heights; none of what is no validator or no height.
func TestExposed(t *testing.T) {
	h := histories()
	c := h.Classes
	for _, x := range []struct {
		v, h int
		l    []api.Class
	}{
		{1, 1, nil}, {1, 4, nil}, {1, 5, c[3:4]}, {1, 8, c[3:4]}, {1, 9, classes(c[0], c[1], c[3], c[4])}, {1, 10, c[:2]}, {1, top, c[:2]},
		{2, 1, classes(c[2], c[5])}, {2, 5, classes(c[1], c[2], c[5])}, {2, 9, classes(c[1], c[2], c[5])}, {2, 10, c[2:3]}, {3, 8, nil}, {3, 9, c[3:]}, {3, 10, c[3:]}, {0, 9, nil}, {31, 9, nil},
	} {
		exposed(x.v, x.h).is(t, h, told{classes: x.l})
	}
	for _, h := range []api.Holding{{}, histories(), rich(), begun(), alone(bare(0, 1), 1, 1), alone(bare(31, top), 1, 1), alone(hopped(0, top, 31, 1), 1, 1)} {
		for _, height := range append(timeless(), 1, 2, 9, top) {
			for _, v := range foreign() {
				exposed(v, height).is(t, h, told{})
			}
		}
		for _, height := range timeless() {
			for _, v := range []int{0, 1, 2, 3, 31} {
				exposed(v, height).is(t, h, told{})
			}
		}
	}
	exposed(0, top).is(t, alone(bare(0, 1), 1, 1), told{classes: classes(class(bare(0, 1), 1, 1))})
	exposed(0, 1).is(t, alone(bare(0, 1), 1, 1), told{classes: classes(class(bare(0, 1), 1, 1))})
	exposed(31, top).is(t, alone(bare(31, top), 1, 1), told{classes: classes(class(bare(31, top), 1, 1))})
	exposed(31, top-1).is(t, alone(bare(31, top), 1, 1), told{})
}

// asks are all calls that tell something of a holding, for one owner, validator, stamp and height.
func asks(owner, v, height int, s api.Stamp) []call {
	return []call{check(), value(owner, s), own(owner, v), tokens(v), total(), belonging(owner), exposed(v, height)}
}

// TestAsksDrawn: P13.1 and P13.5: drawn holdings, valid or not, by the chapter's words.
func TestAsksDrawn(t *testing.T) {
	r := source(5)
	for range 6000 {
		h := drawn(r)
		if r.IntN(8) == 0 {
			h = spoilt(r, h)
		}
		owner, s, _ := arguments(r, h)
		for _, c := range asks(owner, r.IntN(5), r.IntN(10), s) {
			c.holds(t, h)
		}
		want := wantFind(h, s)
		finds(t, h, s, want.pool, want.is)
	}
}

// TestAsksEach: P13.5: holdings at their bounds.
func TestAsksEach(t *testing.T) {
	for _, h := range valids() {
		for _, owner := range []int{0, 1, 5, 7, 63} {
			for _, v := range []int{0, 1, 2, 3, 31} {
				for _, c := range asks(owner, v, 1+owner, bare(v, 1+owner)) {
					c.holds(t, h)
				}
			}
		}
	}
}
