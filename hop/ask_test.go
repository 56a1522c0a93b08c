package hop_test

import (
	"math"
	"slices"
	"testing"

	"distraint/api"
)

// TestCount: P15.1, written out: the hops with that Owner, Src and Dst; the way back is another one.
func TestCount(t *testing.T) {
	l := begun()
	for _, x := range []struct{ owner, src, dst, n int }{
		{0, 1, 2, 3}, {0, 2, 1, 1}, {1, 1, 2, 1}, {0, 1, 3, 1}, {0, 3, 2, 1}, {0, 3, 1, 0}, {0, 2, 3, 0}, {1, 2, 1, 0}, {2, 1, 2, 0}, {1, 2, 0, 0}, {2, 0, 1, 0}, {2, 1, 0, 0}, {1, 0, 2, 0}, {0, 1, 1, 0}, {0, 0, 0, 0},
	} {
		count(x.owner, x.src, x.dst).is(t, l, told{n: x.n})
		count(x.owner, x.src, x.dst).is(t, nil, told{})
		count(x.owner, x.src, x.dst).is(t, slices.Concat(l, l, l), told{n: 3 * x.n}) // in no order
	}
	for _, n := range foreign() {
		count(n, 1, 2).is(t, l, told{})
		count(0, n, 2).is(t, l, told{})
		count(0, 1, n).is(t, l, told{})
		count(n, n, n).is(t, l, told{})
		count(n, n, n).is(t, nil, told{})
	}
}

// strange has hops that no list has, in no order, of owners and validators that are none.
func strange() (l []api.Hop) {
	for _, owner := range append(strangers(), 0, 63) {
		for _, v := range append(foreign(), 0, 31) {
			l = append(l, one(owner, v, owner, v), one(owner, owner, v, -owner), one(owner, v, v, 0))
		}
	}
	return append(l, api.Hop{}, one(-1, -1, -1, -1))
}

// TestCountAny: P15.1: of lists that are not valid, and of longer ones.
func TestCountAny(t *testing.T) {
	l := strange()
	count(0, 0, 0).is(t, l, told{n: 4})
	count(-1, -1, -1).is(t, l, told{n: 4})
	count(63, 31, 31).is(t, l, told{n: 1})
	count(63, 31, 63).is(t, l, told{n: 1})
	count(63, 63, 31).is(t, l, told{n: 1})
	count(63, 63, 63).is(t, l, told{n: 3})
	count(math.MinInt, math.MaxInt, math.MinInt).is(t, l, told{n: 1})
	count(math.MaxInt, math.MaxInt, math.MaxInt).is(t, l, told{n: 3})
	count(64, 32, 33).is(t, l, told{})
	count(66, 32, 32).is(t, l, told{})
	count(7, 5, 5).is(t, repeated(9000, one(7, 5, 5, 0)), told{n: 9000})
	count(5, 7, 5).is(t, repeated(9000, one(7, 5, 5, 0)), told{})
	count(0, 0, 0).is(t, make([]api.Hop, 4097), told{n: 4097})
	down := list(one(1, 2, 3, 9), one(1, 2, 3, 8), one(3, 2, 1, 7), one(1, 2, 3, 9))
	count(1, 2, 3).is(t, down, told{n: 3})
	count(3, 2, 1).is(t, down, told{n: 1})
}

// TestInto: P15.1, written out: an owner's hops to a validator, in order, wherever they come from.
func TestInto(t *testing.T) {
	l := begun()
	into(0, 2).is(t, l, told{hops: list(l[0], l[1], l[5], l[6])})
	into(0, 1).is(t, l, told{hops: list(l[3])})
	into(0, 3).is(t, l, told{hops: list(l[4])})
	into(1, 2).is(t, l, told{hops: list(l[2])})
	into(2, 1).is(t, l, told{})
	into(1, 1).is(t, l, told{})
	into(3, 0).is(t, l, told{})
	into(0, 0).is(t, l, told{})
	into(0, 2).is(t, nil, told{})
	for _, n := range foreign() {
		into(n, 2).is(t, l, told{})
		into(0, n).is(t, l, told{})
		into(n, n).is(t, nil, told{})
	}
	into(63, 31).is(t, rich(), told{hops: list(rich()[3])})
	into(0, 31).is(t, rich(), told{hops: list(rich()[7])})
	same := repeated(40, one(7, 8, 9, 3))
	into(7, 9).is(t, same, told{hops: same})
	into(7, 8).is(t, same, told{})
	into(9, 7).is(t, same, told{})
}

// TestIntoAny: P15.1: of lists that are not valid, in their order, and of longer ones.
func TestIntoAny(t *testing.T) {
	l := strange()
	for _, owner := range append(strangers(), 0, 1, 63) {
		for _, dst := range append(foreign(), 0, 1, 31) {
			into(owner, dst).holds(t, l)
		}
	}
	into(-1, -1).is(t, l, told{hops: slices.DeleteFunc(strange(), func(x api.Hop) bool { return x.Owner != -1 || x.Dst != -1 })})
	down := list(one(1, 9, 2, 9), one(2, 8, 2, 8), one(1, 2, 2, 7), one(1, -9, 2, 0), one(1, 9, 2, 9))
	into(1, 2).is(t, down, told{hops: list(down[0], down[2], down[3], down[4])})
	many := repeated(9000, one(7, 5, 5, 0))
	into(7, 5).is(t, many, told{hops: many})
	into(5, 7).is(t, many, told{})
}

// TestNext: P15.3: at each bound of the time of unbonding; beyond them, and without a hop, there is none.
func TestNext(t *testing.T) {
	next(10).is(t, begun(), told{n: 15, is: true})
	next(1).is(t, begun(), told{n: 6, is: true})
	next(longest).is(t, begun(), told{n: 5 + 1<<20, is: true})
	for _, created := range []int{1, 2, top - longest, top - longest + 1, top - 1, top} {
		for _, unbonding := range []int{1, 2, longest - 1, longest} {
			next(unbonding).is(t, list(one(63, 31, 30, created)), told{n: created + unbonding, is: true})
			next(unbonding).is(t, list(one(63, 31, 30, created), one(0, 1, 2, top)), told{n: created + unbonding, is: true})
			next(unbonding).is(t, nil, told{})
			next(unbonding).is(t, []api.Hop{}, told{})
		}
	}
	for _, unbonding := range endless() {
		for _, l := range append(some(), invalids()...) {
			next(unbonding).is(t, l, told{})
		}
	}
	next(10).is(t, long(4096), told{n: 11, is: true})
	next(10).is(t, long(4097), told{})
	next(10).is(t, list(one(0, 1, 2, 5), one(0, 1, 2, 4)), told{})
	next(10).is(t, list(one(0, 1, 1, 5)), told{})
	next(10).is(t, list(one(0, 1, 2, 5), one(64, 1, 2, 5)), told{})
}
