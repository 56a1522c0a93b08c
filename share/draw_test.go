package share_test

import (
	"math/big"
	"testing"

	"distraint/api"
	"distraint/share"
)

// dice tells numbers of all lengths, the same ones in every run.
type dice uint64

func (d *dice) next() uint64 {
	x := uint64(*d)
	x ^= x << 13
	x ^= x >> 7
	x ^= x << 17
	*d = dice(x)
	return x * 2685821657736338717
}

// upTo tells a number from 1 to n; short ones are as likely as long ones.
func (d *dice) upTo(n uint64) uint64 { return (d.next()>>(d.next()%64))%n + 1 }

// drawn tells n pools that are valid and not empty: some have as many shares as tokens, or nearly so, and others many more.
func drawn(d *dice, n int) []api.Pool {
	var l []api.Pool
	for range n {
		shares := d.upTo(m)
		tokens := d.upTo(min(shares, most))
		switch d.next() % 4 {
		case 0:
			shares = min(tokens+d.upTo(100)-1, m)
		case 1:
			tokens = min(shares, most)
		}
		l = append(l, of(tokens, shares))
	}
	return l
}

// worth tells the exact value of x shares.
func worth(p api.Pool, x uint64) *big.Rat {
	if p.Shares == 0 {
		return new(big.Rat)
	}
	return new(big.Rat).SetFrac(new(big.Int).Mul(whole(x), whole(p.Tokens)), whole(p.Shares))
}

func minus(a, b *big.Rat) *big.Rat { return new(big.Rat).Sub(a, b) }

func exactly(n uint64) *big.Rat { return new(big.Rat).SetInt(whole(n)) }

// rounds tells whether r is from 0 to just below 1: what rounding may cost.
func rounds(r *big.Rat) bool { return r.Sign() >= 0 && r.Cmp(big.NewRat(1, 1)) < 0 }

// some tells numbers of shares of which others may have each, out of n.
func some(d *dice, n uint64) (l []uint64) {
	for _, x := range []uint64{1, n / 3, n / 2, n - 1, n} {
		if x > 0 && x <= n {
			l = append(l, x, d.upTo(x))
		}
	}
	return l
}

// others: after a Join or a Leave the exact value of n shares, and of any of them, is not less than before, and greater by less than 1. It tells whether it is greater.
func others(t *testing.T, d *dice, before, after api.Pool, n uint64) (greater bool) {
	t.Helper()
	for _, x := range some(d, n) {
		gain := minus(worth(after, x), worth(before, x))
		if !rounds(gain) {
			t.Fatalf("%v, then %v: the value of %d other shares grew by %v", before, after, x, gain)
		}
		greater = greater || gain.Sign() > 0
	}
	return greater
}

// use is told a pool, a number, and what a call made of them.
type use func(p api.Pool, n uint64, after api.Pool, told uint64)

// each asks for an operation on drawn pools and on those at the bounds, with some numbers, and tells what is not refused.
func each(t *testing.T, d *dice, call func(api.Pool, uint64) (api.Pool, uint64, api.Errno), numbers func(p api.Pool) []uint64, tell use) {
	t.Helper()
	made := 0
	for _, p := range append(drawn(d, 3000), valids()...) {
		for _, n := range numbers(p) {
			if after, told, err := call(p, n); err == api.OK {
				made++
				tell(p, n, after, told)
			}
		}
	}
	if made < 6000 {
		t.Errorf("only %d were made", made)
	}
}

func joins(t *testing.T, d *dice, tell use) {
	t.Helper()
	each(t, d, share.Join, func(p api.Pool) []uint64 {
		return []uint64{1, d.upTo(max(p.Tokens, 1)), d.upTo(most), most - p.Tokens, p.Tokens, m/max(p.Shares, 1) + 1}
	}, tell)
}

func leaves(t *testing.T, d *dice, tell use) {
	t.Helper()
	each(t, d, share.Leave, func(p api.Pool) []uint64 {
		return []uint64{1, d.upTo(max(p.Shares, 1)), d.upTo(max(p.Shares, 1)), p.Shares / 2, p.Shares - 1, p.Shares}
	}, tell)
}

func cuts(t *testing.T, d *dice, tell use) {
	t.Helper()
	each(t, d, share.Cut, func(p api.Pool) []uint64 {
		return []uint64{0, 1, d.upTo(api.Billion), d.upTo(api.Billion), api.Billion - 1, api.Billion}
	}, tell)
}

// TestDrawn: P11.1 to P11.4: each call of drawn pools, valid or not, by the chapter's words.
func TestDrawn(t *testing.T) {
	d := dice(7)
	pools := drawn(&d, 1500)
	for range 500 {
		pools = append(pools, of(d.upTo(m), d.upTo(m)))
	}
	for _, p := range pools {
		for _, r := range requests() {
			for _, n := range append(edges(p), d.upTo(m), d.upTo(max(p.Shares, 1)), d.upTo(api.Billion)) {
				r.holds(t, p, n)
			}
		}
	}
}
