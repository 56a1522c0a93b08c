package queue_test

import (
	"math"
	"slices"
	"testing"

	"distraint/api"
)

// TestLive: P14.5, written out: the entries of an owner whose stamp has the Validator; whom a lot backed before does not count, and what is left of it does not either.
func TestLive(t *testing.T) {
	l := rich()
	for _, x := range []struct {
		owner, v int
		n        uint64
	}{{63, 31, 1}, {0, 0, 2}, {0, 3, 1}, {0, 2, 0}, {5, 2, 2}, {5, 3, 0}, {62, 2, 1}, {62, 31, 0}, {0, 31, 1}, {1, 0, 0}, {31, 63, 0}, {2, 5, 0}, {3, 0, 0}} {
		live(x.owner, x.v).is(t, l, told{n: x.n})
		live(x.owner, x.v).is(t, nil, told{})
		live(x.owner, x.v).is(t, slices.Concat(l, l, l), told{n: 3 * x.n})
	}
	for _, n := range foreign() {
		live(n, 0).is(t, l, told{})
		live(0, n).is(t, l, told{})
		live(n, n).is(t, l, told{})
	}
}

// strange has entries that no queue has, in no order, of owners and validators that are none.
func strange() (l []api.Entry) {
	for _, owner := range append(strangers(), 0, 63) {
		for _, v := range append(foreign(), 0, 31) {
			l = append(l, entry(owner, bare(v, -owner), v, 0), cutTo(entry(owner, hopped(v, 0, v, v), owner, 1), m))
		}
	}
	return append(l, api.Entry{}, api.Entry{Owner: -1, Stamp: api.Stamp{Validator: -1}})
}

// TestLiveAny: P14.5: of lists that are no queues, and of longer ones.
func TestLiveAny(t *testing.T) {
	l := strange()
	live(0, 0).is(t, l, told{n: 3})
	live(-1, -1).is(t, l, told{n: 3})
	live(63, 31).is(t, l, told{n: 2})
	live(math.MinInt, math.MaxInt).is(t, l, told{n: 2})
	live(64, 32).is(t, l, told{n: 2})
	live(66, 32).is(t, l, told{})
	live(64, 34).is(t, l, told{})
	live(7, 5).is(t, repeated(40000, entry(7, bare(5, 0), 0, 0)), told{n: 40000})
	live(5, 7).is(t, repeated(40000, entry(7, bare(5, 0), 0, 0)), told{})
	live(0, 0).is(t, make([]api.Entry, 33000), told{n: 33000})
}

// TestOf: P14.5, written out: an owner's entries, in order.
func TestOf(t *testing.T) {
	l := rich()
	belonging(0).is(t, l, told{queue: list(l[1], l[2], l[6], l[7])})
	belonging(5).is(t, l, told{queue: list(l[3], l[4])})
	belonging(62).is(t, l, told{queue: list(l[5])})
	belonging(63).is(t, l, told{queue: list(l[0])})
	belonging(1).is(t, l, told{})
	belonging(31).is(t, l, told{})
	belonging(0).is(t, nil, told{})
	for _, n := range strangers() {
		belonging(n).is(t, l, told{})
		belonging(n).is(t, nil, told{})
	}
	same := repeated(40, entry(7, bare(2, 5), 8, 3))
	belonging(7).is(t, same, told{queue: same})
	belonging(8).is(t, same, told{})
}

// TestOfAny: P14.5: of lists that are no queues, in their order, and of longer ones.
func TestOfAny(t *testing.T) {
	l := strange()
	for i, owner := range append(strangers(), 0, 63) {
		n := 2 * (len(foreign()) + 2)
		want := slices.Clone(l[i*n : i*n+n])
		switch owner {
		case 0:
			want = append(want, api.Entry{})
		case -1:
			want = append(want, l[len(l)-1])
		}
		belonging(owner).is(t, l, told{queue: want})
	}
	belonging(5).is(t, l, told{})
	down := list(entry(1, bare(9, 9), 9, 0), entry(2, bare(8, 8), 8, 0), entry(1, bare(7, 7), 7, m), entry(1, bare(9, 9), 9, 0))
	belonging(1).is(t, down, told{queue: list(down[0], down[2], down[3])})
	many := repeated(40000, entry(7, bare(5, 0), 0, 0))
	belonging(7).is(t, many, told{queue: many})
	belonging(5).is(t, many, told{})
}

// TestTotal: P14.5, written out: what is left in all, not what there was.
func TestTotal(t *testing.T) {
	s := bare(2, 5)
	total().is(t, nil, told{n: 0})
	total().is(t, begun(), told{n: 60})
	total().is(t, rich(), told{n: 1 + 29 + 1<<40 + 1000 + 1<<61 + 7})
	total().is(t, list(entry(0, s, 5, most)), told{n: most})
	total().is(t, list(cutTo(entry(0, s, 5, m), 0)), told{n: 0})
	total().is(t, list(entry(0, s, 5, most-1), entry(0, s, 5, 1)), told{n: most})
	total().is(t, list(entry(0, s, 5, most-1), entry(0, s, 5, 2)), refused(api.ErrOver))
	total().is(t, list(entry(0, s, 5, most), entry(0, s, 5, most), entry(0, s, 5, most), entry(0, s, 5, most)), refused(api.ErrOver))
	total().is(t, long(32768), told{n: 32768})
	total().is(t, long(32769), refused(api.ErrLong))
	total().is(t, list(entry(0, s, 4, 1)), refused(api.ErrOrder))
	total().is(t, list(entry(64, s, 5, 1)), refused(api.ErrRange))
	total().is(t, list(entry(0, s, 5, 0)), refused(api.ErrDust))
	total().is(t, list(cutTo(entry(0, s, 5, 1), 2)), refused(api.ErrState))
}
