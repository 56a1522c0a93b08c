package share_test

import (
	"math/big"
	"testing"

	"distraint/api"
	"distraint/share"
)

// TestOthersKeepTheirs: P11.5: what a Join or a Leave does to the exact value of other shares, computed as fractions: nothing at all, if nothing is rounded.
func TestOthersKeepTheirs(t *testing.T) {
	d := dice(11)
	greater, alike := 0, 0
	count := func(grew bool) {
		if grew {
			greater++
		} else {
			alike++
		}
	}
	joins(t, &d, func(p api.Pool, a uint64, after api.Pool, n uint64) { count(others(t, &d, p, after, p.Shares)) })
	leaves(t, &d, func(p api.Pool, x uint64, after api.Pool, n uint64) { count(others(t, &d, p, after, p.Shares-x)) })
	if greater < 3000 || alike < 3000 {
		t.Errorf("%d were greater, %d were not", greater, alike)
	}
}

// TestJoinedIsWorthIt: P11.5: the exact value of the shares that a Join yields is at most the amount, and less by less than 1.
func TestJoinedIsWorthIt(t *testing.T) {
	d := dice(13)
	joins(t, &d, func(p api.Pool, a uint64, after api.Pool, n uint64) {
		if lost := minus(exactly(a), worth(after, n)); !rounds(lost) {
			t.Fatalf("Join(%v, %d): %d shares of %v are worth %v less", p, a, n, after, lost)
		}
	})
}

// TestNothingIsWon: P11.5: whoever joins and leaves again, or leaves and joins again, has no more than before, and takes nothing from the others.
func TestNothingIsWon(t *testing.T) {
	d := dice(17)
	joins(t, &d, func(p api.Pool, a uint64, after api.Pool, n uint64) {
		last, back, err := share.Leave(after, n)
		if err == api.ErrDust && a == 1 {
			return // not even a token's worth
		}
		if err != api.OK || back > a || a-back > 1 || last.Shares != p.Shares || last.Tokens-p.Tokens != a-back {
			t.Fatalf("%v: joined with %d, left with %d, %v: %v", p, a, back, err, last)
		}
	})
	leaves(t, &d, func(p api.Pool, x uint64, after api.Pool, n uint64) {
		last, back, err := share.Join(after, n)
		if err != api.OK || back > x || last.Tokens != p.Tokens || p.Shares-last.Shares != x-back {
			t.Fatalf("%v: left with %d shares, joined for %d, %v: %v", p, x, back, err, last)
		}
	})
}

// TestReported: P11.6: each operation on a valid pool tells a valid pool, and changes it by exactly what it reports.
func TestReported(t *testing.T) {
	d := dice(19)
	joins(t, &d, func(p api.Pool, a uint64, after api.Pool, n uint64) {
		if checked(after) != api.OK || after.Tokens-p.Tokens != a || after.Tokens < p.Tokens || after.Shares-p.Shares != n || after.Shares < p.Shares {
			t.Fatalf("Join(%v, %d): %v, %d", p, a, after, n)
		}
	})
	leaves(t, &d, func(p api.Pool, x uint64, after api.Pool, n uint64) {
		if checked(after) != api.OK || p.Tokens-after.Tokens != n || after.Tokens > p.Tokens || p.Shares-after.Shares != x || after.Shares > p.Shares {
			t.Fatalf("Leave(%v, %d): %v, %d", p, x, after, n)
		}
	})
	cuts(t, &d, func(p api.Pool, ppb uint64, after api.Pool, n uint64) {
		if checked(after) != api.OK || p.Tokens-after.Tokens != n || after.Tokens > p.Tokens {
			t.Fatalf("Cut(%v, %d): %v, %d", p, ppb, after, n)
		}
	})
}

// TestCutsAreEven: P11.7: a cut leaves the shares as they are, and multiplies the exact value of each by the fraction of the tokens that is left; so each loses the billionths that were asked for, or less by less than 1.
func TestCutsAreEven(t *testing.T) {
	d := dice(23)
	emptied := 0
	cuts(t, &d, func(p api.Pool, ppb uint64, after api.Pool, n uint64) {
		if p.Tokens == 0 {
			return // nobody has a share
		}
		if n == p.Tokens {
			emptied++
		} else if after.Shares != p.Shares {
			t.Fatalf("Cut(%v, %d): %v", p, ppb, after)
		}
		left := new(big.Rat).SetFrac(whole(p.Tokens-n), whole(p.Tokens))
		asked := new(big.Rat).SetFrac(whole(ppb), whole(1000000000))
		for _, x := range some(&d, p.Shares) {
			before, now := worth(p, x), worth(after, x)
			if now.Cmp(new(big.Rat).Mul(before, left)) != 0 {
				t.Fatalf("Cut(%v, %d): %v: %d shares were worth %v, and are now %v", p, ppb, after, x, before, now)
			}
			if spared := minus(new(big.Rat).Mul(before, asked), minus(before, now)); !rounds(spared) {
				t.Fatalf("Cut(%v, %d): %v: of %d shares %v were spared", p, ppb, after, x, spared)
			}
		}
	})
	if emptied < 3000 {
		t.Errorf("only %d were emptied", emptied)
	}
}

// owner is somebody in a walk: the shares that are theirs, and what they put in and took out.
type owner struct{ shares, in, out uint64 }

// has tells what an owner has gained: what was taken out and what is still there, less what was put in.
func (o owner) has(p api.Pool) *big.Rat {
	sum := new(big.Rat).Add(exactly(o.out), worth(p, o.shares))
	return minus(sum, exactly(o.in))
}

// acts: one owner joins or leaves; the pool after it, and whether it was done.
func (o *owner) acts(d *dice, p api.Pool) (api.Pool, bool) {
	if o.shares > 0 && d.next()%2 == 0 {
		x := d.upTo(o.shares)
		after, n, err := share.Leave(p, x)
		if err == api.OK {
			o.shares, o.out = o.shares-x, o.out+n
		}
		return after, err == api.OK
	}
	a := d.upTo(1 << (d.next() % 50))
	after, n, err := share.Join(p, a)
	if err == api.OK {
		o.shares, o.in = o.shares+n, o.in+a
	}
	return after, err == api.OK
}

// step: what one owner's step did to what all of them have gained: it cost that one less than 1, and gained the others less than 1 each, and cost them nothing. It tells whether anybody gained or lost.
func step(t *testing.T, was []*big.Rat, owners []owner, p api.Pool, who int) (rounded bool) {
	t.Helper()
	for i, o := range owners {
		gain := minus(o.has(p), was[i])
		rounded = rounded || gain.Sign() != 0
		if i == who {
			gain.Neg(gain)
		}
		if !rounds(gain) {
			t.Fatalf("%v: %d acted, %d gained or lost %v", p, who, i, gain)
		}
	}
	return rounded
}

// TestWalks: P11.5 and P11.6: in walks of owners who join and leave, with a cut now and then, no step costs anybody else anything; the pool always has all their shares, and all tokens that are in, and neither out nor cut.
func TestWalks(t *testing.T) {
	rounded := 0
	for seed := range uint64(20) {
		d, p, owners, lost := dice(seed+1), of(0, 0), make([]owner, 4), uint64(0)
		for range 300 {
			if d.next()%16 == 0 {
				after, n, _ := share.Cut(p, d.upTo(api.Billion/4))
				p, lost = after, lost+n
			}
			was := make([]*big.Rat, 4)
			for i, o := range owners {
				was[i] = o.has(p)
			}
			who := int(d.next() % 4)
			after, ok := owners[who].acts(&d, p)
			if !ok {
				continue
			}
			if step(t, was, owners, after, who) {
				rounded++
			}
			shares, tokens := uint64(0), -lost
			for _, o := range owners {
				shares, tokens = shares+o.shares, tokens+o.in-o.out
			}
			if p = after; p != of(tokens, shares) || checked(p) != api.OK {
				t.Fatalf("walk %d: %v; want %d tokens, %d shares", seed, p, tokens, shares)
			}
		}
	}
	if rounded < 2000 {
		t.Errorf("only %d steps were rounded", rounded)
	}
}
