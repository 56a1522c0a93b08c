package active_test

import (
	"testing"

	"distraint/active"
)

// TestRankLengths: P17.1: lists of the same length, of which either is longer, and empty ones; what is missing counts as 0 and as false.
func TestRankLengths(t *testing.T) {
	for _, x := range []struct {
		tokens []uint64
		may    string
		want   []int
	}{
		{amounts(5, 9, 7), "111", numbers(1, 2, 0)},
		{amounts(5, 9, 7), "11", numbers(1, 0)},
		{amounts(5, 9, 7), "1", numbers(0)},
		{amounts(5, 9, 7), "", nil},
		{amounts(5, 9), "111", numbers(1, 0)},
		{amounts(5), "111", numbers(0)},
		{nil, "111", nil},
		{nil, "", nil},
		{amounts(m), "", nil},
		{amounts(m), "1", numbers(0)},
		{amounts(1), "0", nil},
		{amounts(1), "0111111", nil},
		{amounts(1, 1, 1, 1, 1), "01", numbers(1)},
	} {
		rank(x.tokens, bools(x.may)).is(t, told{numbers: x.want})
	}
	rank([]uint64{}, []bool{}).is(t, told{})
	rank([]uint64{}, nil).is(t, told{})
	rank(nil, []bool{}).is(t, told{})
}

// TestRankEligible: P17.1: validators that may and have no tokens are not eligible, nor are ones that have tokens and may not, however many.
func TestRankEligible(t *testing.T) {
	for _, x := range []struct {
		tokens []uint64
		may    string
		want   []int
	}{
		{amounts(0), "1", nil},
		{amounts(0, 0, 0), "111", nil},
		{amounts(0, 1, 0), "111", numbers(1)},
		{amounts(1, 0, 1), "111", numbers(0, 2)},
		{amounts(m, 1, m), "010", numbers(1)},
		{amounts(m, 0, m), "010", nil},
		{amounts(3, 2, 1), "101", numbers(0, 2)},
		{amounts(1, 2, 3), "110", numbers(1, 0)},
		{amounts(m, m, m), "000", nil},
	} {
		rank(x.tokens, bools(x.may)).is(t, told{numbers: x.want})
	}
}

// TestRankEqual: P17.1: of equal numbers of tokens, next to each other and far apart, the validator with the smaller number comes first.
func TestRankEqual(t *testing.T) {
	for _, x := range []struct {
		tokens []uint64
		may    string
		want   []int
	}{
		{amounts(3, 3), "11", numbers(0, 1)},
		{amounts(3, 3, 3, 3, 3, 3, 3), "1111111", numbers(0, 1, 2, 3, 4, 5, 6)},
		{amounts(3, 3, 3, 3, 3, 3, 3), "0101011", numbers(1, 3, 5, 6)},
		{amounts(3, 4, 2, 3, 1, 4, 3), "1111111", numbers(1, 5, 0, 3, 6, 2, 4)},
		{amounts(m, m-1, m, m-1, m), "11111", numbers(0, 2, 4, 1, 3)},
		{amounts(1, m, 1, m, 1), "11111", numbers(1, 3, 0, 2, 4)},
		{amounts(1<<63, 1<<63-1, 1<<63, 1<<63+1), "1111", numbers(3, 0, 2, 1)},
		{amounts(1<<32, 1, 1<<32, 1), "1111", numbers(0, 2, 1, 3)},
	} {
		rank(x.tokens, bools(x.may)).is(t, told{numbers: x.want})
	}
	for _, n := range []int{2, 31, 32, 33, 500} {
		want := told{}
		for v := range n {
			want.numbers = append(want.numbers, v)
		}
		rank(same[uint64](n, 9), same(n, true)).is(t, want)
		rank(same[uint64](n, m), same(n, true)).is(t, want)
		far := after(n, uint64(7))
		far[0], far[n/2] = 7, 7
		rank(far, same(n+1, true)).is(t, told{numbers: distinct(0, n/2, n)})
	}
}

// distinct tells increasing numbers, each of them once.
func distinct(l ...int) (once []int) {
	for i, x := range l {
		if i == 0 || x != l[i-1] {
			once = append(once, x)
		}
	}
	return once
}

// TestRankOrders: P17.1: validators that are in order, in the other one, and in drawn ones.
func TestRankOrders(t *testing.T) {
	for _, n := range []int{1, 2, 3, 31, 32, 33, 200} {
		up, down := told{}, told{}
		var rising, falling []uint64
		for v := range n {
			up.numbers = append(up.numbers, n-1-v)
			down.numbers = append(down.numbers, v)
			rising = append(rising, uint64(v+1))
			falling = append(falling, m-uint64(v))
		}
		rank(rising, same(n, true)).is(t, up)
		rank(falling, same(n, true)).is(t, down)
		r := source(uint64(n))
		for range 20 {
			order := r.Perm(n)
			tokens := make([]uint64, n)
			for i, v := range order {
				tokens[v] = uint64(n - i)
			}
			rank(tokens, same(n, true)).is(t, told{numbers: order})
		}
	}
}

// TestRankSmall: P17.1: all short lists.
func TestRankSmall(t *testing.T) {
	for _, tokens := range lists[uint64](3, 0, 1, 2, m) {
		for _, may := range lists(4, false, true) {
			rank(tokens, may).holds(t)
		}
	}
	for _, tokens := range lists[uint64](6, 1, 2, 3) {
		rank(tokens, same(len(tokens), true)).holds(t)
	}
}

// TestRankDrawn: P17.1: drawn lists.
func TestRankDrawn(t *testing.T) {
	r := source(1)
	for range 5000 {
		rank(drawnTokens(r), drawnSet(r)).holds(t)
	}
}

// TestRankLong: P17.1: far more validators than a chain has.
func TestRankLong(t *testing.T) {
	const n = 100_000
	r := source(2)
	order := r.Perm(n)
	tokens := make([]uint64, n)
	for i, v := range order {
		tokens[v] = uint64(n - i)
	}
	for i, v := range active.Rank(tokens, same(n, true)) {
		if v != order[i] {
			t.Fatalf("%d is the validator %d; want %d", i, v, order[i])
		}
	}
	chosen := active.Choose(tokens, same(n, true), n/2)
	for i, v := range order {
		if chosen[v] != (i < n/2) {
			t.Fatalf("%d, the validator %d: %v", i, v, chosen[v])
		}
	}
}
