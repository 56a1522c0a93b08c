package queue_test

import (
	"math"
	"testing"

	"distraint/api"
)

// within: of x, alone in a queue, which backed v from one height to another one, half is cut at exactly these heights.
func within(t *testing.T, x api.Entry, v, from, to int) {
	t.Helper()
	l := list(x)
	for _, h := range []int{1, from - 1, from, from + 1, to - 1, to, to + 1, x.Created, x.Created + 1, top} {
		switch {
		case h < 1 || h > top:
			cut(v, h, all/2).is(t, l, refused(api.ErrRange))
		case h < from || h > to:
			cut(v, h, all/2).is(t, l, told{queue: l})
		default:
			cut(v, h, all/2).is(t, l, told{queue: list(cutTo(x, x.Balance-x.Balance/2)), shaves: []api.Shave{shave(0, x.Balance/2)}, n: x.Balance / 2})
		}
	}
}

// TestCutHeights: P14.4: at each end of an entry's heights and one beyond, of stamps with and without a Prior; at the height of a hop both are backed, and at that of an undelegation the Validator is.
func TestCutHeights(t *testing.T) {
	for _, created := range []int{5, 6, 9, 1000, top - 1, top} {
		x := entry(4, bare(2, 5), created, 31)
		within(t, x, 2, 5, created)
		within(t, x, 1, top+1, top+1)
		within(t, x, 0, top+1, top+1)
	}
	for _, created := range []int{9, 10, 20, top} {
		for _, from := range []int{1, 5, 9} {
			x := entry(4, hopped(2, 9, 1, from), created, 31)
			within(t, x, 2, 9, created)
			within(t, x, 1, from, 9)
			within(t, x, 0, top+1, top+1)
			within(t, x, 31, top+1, top+1)
		}
	}
	within(t, entry(0, bare(0, 1), 1, 2), 0, 1, 1)
	within(t, entry(0, bare(31, 1), top, 2), 31, 1, top)
	within(t, entry(0, bare(31, top), top, 2), 31, top, top)
	within(t, entry(0, hopped(31, top, 0, 1), top, 2), 0, 1, top)
	within(t, entry(0, hopped(31, top, 0, top), top, 2), 31, top, top)
}

// TestCutAmounts: P14.4, written out: what is cut is rounded down, be it nothing; no billionths, one, all; Balances of 0 and of 2^62; what was cut before is not cut again.
func TestCutAmounts(t *testing.T) {
	for _, x := range []struct{ initial, balance, ppb, part uint64 }{
		{30, 30, 0, 0}, {30, 30, all, 30}, {30, 30, all / 2, 15}, {31, 31, all / 2, 15}, {1, 1, all / 2, 0}, {1, 1, all - 1, 0}, {1, 1, all, 1}, {2, 2, all / 2, 1}, {2, 2, all/2 - 1, 0}, {3, 3, 333333333, 0}, {3, 3, 333333334, 1},
		{30, 29, all / 2, 14}, {30, 28, all / 2, 14}, {30, 0, all, 0}, {30, 0, all / 2, 0}, {30, 0, 0, 0}, {30, 1, all, 1}, {m, 10, all / 2, 5}, {m, 0, all, 0},
		{all, all, 1, 1}, {all, all - 1, 1, 0}, {all, all - 1, 2, 1}, {2 * all, 2*all - 1, 1, 1}, {all, all, all - 1, all - 1}, {all, all - 1, all - 1, all - 2},
		{most, most, 0, 0}, {most, most, 1, 4611686018}, {most, most, all / 2, most / 2}, {most, most, all - 1, 4611686013815701885}, {most, most, all, most}, {m, most, all, most}, {most, most - 1, all / 2, most/2 - 1}, {m, most - 1, all, most - 1},
	} {
		e := cutTo(entry(5, bare(2, 5), 9, x.initial), x.balance)
		cut(2, 9, x.ppb).is(t, list(e), told{queue: list(cutTo(e, x.balance-x.part)), shaves: []api.Shave{shave(0, x.part)}, n: x.part})
	}
}

// TestCutPlaces: P14.4: the index of each entry that backed the validator, in order, with a part of 0 too; no other one is told.
func TestCutPlaces(t *testing.T) {
	l := list(entry(0, bare(1, 1), 9, 10), entry(0, bare(2, 5), 9, 1), cutTo(entry(3, bare(2, 9), 9, 7), 0), entry(1, hopped(3, 9, 2, 4), 10, 100), entry(1, bare(3, 1), 11, 100), entry(2, hopped(2, 10, 3, 9), 11, 9), cutTo(entry(0, hopped(4, 20, 2, 1), 20, 51), 50))
	check(t, l, api.OK, 0)
	cut(2, 9, all/10).is(t, l, told{
		queue:  list(l[0], l[1], l[2], cutTo(l[3], 90), l[4], l[5], cutTo(l[6], 45)),
		shaves: []api.Shave{shave(1, 0), shave(2, 0), shave(3, 10), shave(6, 5)}, n: 15,
	})
	cut(3, 9, all).is(t, l, told{
		queue:  list(l[0], l[1], l[2], cutTo(l[3], 0), cutTo(l[4], 0), cutTo(l[5], 0), l[6]),
		shaves: []api.Shave{shave(3, 100), shave(4, 100), shave(5, 9)}, n: 209,
	})
	cut(2, 9, 0).is(t, l, told{queue: l, shaves: []api.Shave{shave(1, 0), shave(2, 0), shave(3, 0), shave(6, 0)}})
	cut(2, 21, all).is(t, l, told{queue: l})
	cut(1, 9, all).is(t, l, told{queue: list(cutTo(l[0], 0), l[1], l[2], l[3], l[4], l[5], l[6]), shaves: []api.Shave{shave(0, 10)}, n: 10})
	cut(0, 9, all).is(t, l, told{queue: l})
	cut(31, 9, all).is(t, l, told{queue: l})
}

// TestCutSum: P14.4: parts that come to the whole supply, and of a queue that is full.
func TestCutSum(t *testing.T) {
	s := bare(2, 5)
	l := list(entry(0, s, 5, most-3), entry(1, hopped(3, 5, 2, 5), 6, 2), entry(2, s, 7, 1))
	cut(2, 5, all).is(t, l, told{queue: list(cutTo(l[0], 0), cutTo(l[1], 0), cutTo(l[2], 0)), shaves: []api.Shave{shave(0, most-3), shave(1, 2), shave(2, 1)}, n: most})
	full := repeated(32768, entry(0, s, 12, most>>15))
	cut(2, 12, all).holds(t, full)
	cut(2, 12, all/3).holds(t, full)
	cut(2, 13, all).is(t, full, told{queue: full})
}

// TestCutBounds: P14.4: a validator, a height and billionths just, and far, out of their bounds, of any queue.
func TestCutBounds(t *testing.T) {
	for _, l := range some() {
		for _, v := range foreign() {
			cut(v, 9, 0).is(t, l, refused(api.ErrRange))
			cut(v, 9, all).is(t, l, refused(api.ErrRange))
		}
		for _, h := range timeless() {
			cut(2, h, 0).is(t, l, refused(api.ErrRange))
			cut(2, h, all).is(t, l, refused(api.ErrRange))
		}
		for _, ppb := range []uint64{all + 1, all + 2, 1 << 32, 1 << 63, math.MaxUint64} {
			cut(2, 9, ppb).is(t, l, refused(api.ErrRange))
			cut(0, 1, ppb).is(t, l, refused(api.ErrRange))
		}
		for _, v := range []int{0, 31} {
			for _, h := range []int{1, top} {
				for _, ppb := range []uint64{0, 1, all - 1, all} {
					if got := cut(v, h, ppb).ask(l); got.err != api.OK {
						t.Errorf("Cut(%s, %d, %d, %d): %v", brief(l), v, h, ppb, got.err)
					}
					cut(v, h, ppb).holds(t, l)
				}
			}
		}
	}
}
