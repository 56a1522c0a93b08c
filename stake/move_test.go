package stake_test

import (
	"testing"

	"distraint/api"
)

// TestRedelegateRefused: P18.3: each refusal of a Redelegate, alone and ahead of those behind it.
func TestRedelegateRefused(t *testing.T) {
	for _, to := range append(nowhere(), 0, 1, 3, 6) {
		for _, x := range []uint64{0, 1, great} {
			for _, n := range append(nowhere(), 1, 6) {
				redelegate(n, bare(0, 1), x, to).refuses(t, scene(), api.ErrUnknown)
				redelegate(0, bare(n, 1), x, to).refuses(t, scene(), api.ErrUnknown)
			}
			redelegate(0, bare(0, 2), x, to).refuses(t, scene(), api.ErrUnknown)
			redelegate(1, hopped(0, 15, 1, 4), x, to).refuses(t, scene(), api.ErrUnknown)
		}
		for _, x := range []uint64{51, great} {
			redelegate(0, bare(0, 1), x, to).refuses(t, scene(), api.ErrPoor)
		}
		redelegate(0, bare(0, 1), 0, to).refuses(t, scene(), api.ErrDust)
		redelegate(3, bare(3, 5), 8, to).refuses(t, scene(), api.ErrDust)
	}
	for _, to := range append(nowhere(), 6) {
		redelegate(0, bare(0, 1), 1, to).refuses(t, scene(), api.ErrUnknown)
		redelegate(1, hopped(0, 15, 1, 3), 2, to).refuses(t, scene(), api.ErrUnknown)
	}
	redelegate(0, bare(0, 1), 1, 3).refuses(t, scene(), api.ErrTomb)
	redelegate(3, bare(3, 5), 9, 3).refuses(t, scene(), api.ErrTomb)
	redelegate(1, hopped(0, 15, 1, 3), 2, 3).refuses(t, scene(), api.ErrTomb)
	redelegate(0, bare(0, 1), 1, 0).refuses(t, scene(), api.ErrArg)
	redelegate(1, hopped(0, 15, 1, 3), 2, 0).refuses(t, scene(), api.ErrArg)
	redelegate(1, hopped(0, 15, 1, 3), 2, 1).refuses(t, scene(), api.ErrChain)
	redelegate(3, hopped(1, 16, 0, 1), 1, 0).refuses(t, scene(), api.ErrChain)
	redelegate(3, hopped(1, 16, 0, 1), 1, 2).refuses(t, scene(), api.ErrChain)
}

// TestRedelegateFull: P18.3: the refusals of a Redelegate that come of what is full, alone and ahead of those behind them.
func TestRedelegateFull(t *testing.T) {
	hops := func(owner, src, dst int) func(x *api.Ledger) {
		return func(x *api.Ledger) { x.Hops = append(x.Hops, jump(owner, src, dst, 20), jump(owner, src, dst, 20)) }
	}
	redelegate(3, hopped(1, 16, 0, 1), 1, 0).refuses(t, with(scene(), hops(3, 1, 0)), api.ErrChain)
	redelegate(1, bare(1, 3), 2, 0).refuses(t, with(scene(), hops(1, 1, 0)), api.ErrCap)
	redelegate(1, bare(1, 3), 20, 0).refuses(t, fullOfHops(), api.ErrCap)
	redelegate(1, bare(1, 3), 2, 2).refuses(t, fullOfHops(), api.ErrLong)
	redelegate(2, bare(1, 3), 2, 0).refuses(t, fullOfHops(), api.ErrLong)

	full := fullOfClasses()
	redelegate(1, bare(0, 7), 3, 1).refuses(t, full, api.ErrFull)
	redelegate(1, bare(0, 7), 6, 1).refuses(t, full, api.ErrPoor)
	redelegate(1, bare(0, 7), 3, 0).refuses(t, full, api.ErrArg)
	capped := odd(full, func(x *api.Ledger) { x.Hops = []api.Hop{jump(1, 0, 1, 2000), jump(1, 0, 1, 2000)} })
	redelegate(1, bare(0, 7), 3, 1).refuses(t, capped, api.ErrCap)
	long := odd(full, func(x *api.Ledger) { x.Hops = fullOfHops().Hops })
	redelegate(1, bare(0, 7), 3, 1).refuses(t, long, api.ErrLong)
	// A class that is left by all makes room for the new one.
	redelegate(1, bare(0, 7), 5, 1).is(t, full, told{lot: api.Lot{Stamp: hopped(1, 2000, 0, 7), Amount: 5, Shares: 5}})

	for _, a := range []uint64{3, 30} {
		redelegate(2, bare(0, 1), a, 2).refuses(t, dear(), api.ErrOver)
	}
	redelegate(2, bare(0, 1), 2, 2).is(t, dear(), told{lot: api.Lot{Stamp: hopped(2, 20, 0, 1), Amount: 2, Shares: 1 << 63}})
}

// TestRedelegate: P18.3: a lot that backs another validator since now, and backed the one before until now; its tokens stay bonded.
func TestRedelegate(t *testing.T) {
	for x, a := range map[uint64]uint64{2: 1, 5: 4, 19: 15, 20: 16} {
		for _, to := range []int{0, 2, 4, 5} {
			after := redelegate(1, bare(1, 3), x, to).is(t, scene(), told{lot: api.Lot{Stamp: hopped(to, 20, 1, 3), Amount: a, Shares: a}})
			if after.Hops[4] != jump(1, 1, to, 20) || after.Bank.Pools != scene().Bank.Pools || len(after.Entries) != 5 {
				t.Errorf("redelegated: %s", brief(after))
			}
		}
	}
	// Into a class that is there, of which a token is worth two shares.
	there := with(scene(), lot(4, hopped(5, 20, 1, 3), 6, 12))
	redelegate(1, bare(1, 3), 4, 5).is(t, there, told{lot: api.Lot{Stamp: hopped(5, 20, 1, 3), Amount: 3, Shares: 6}})
	// Away from one that is tombstoned, and of a lot that came in this block.
	redelegate(3, bare(3, 5), 9, 0).is(t, scene(), told{lot: api.Lot{Stamp: hopped(0, 20, 3, 5), Amount: 1, Shares: 1}})
	redelegate(0, bare(1, 20), 7, 0).is(t, scene(), told{lot: api.Lot{Stamp: hopped(0, 20, 1, 20), Amount: 7, Shares: 7}})
	redelegate(2, bare(0, 1), 30, 1).is(t, odd(scene(), at(top)), told{lot: api.Lot{Stamp: hopped(1, top, 0, 1), Amount: 30, Shares: 30}})
}

// TestRedelegateChain: P18.3: a lot that moved already, at the last height at which it can be punished for its past, one before it, and one later.
func TestRedelegateChain(t *testing.T) {
	for _, unbonding := range []int{1, 2, 5, 100, api.MaxPeriod} {
		for _, since := range []int{1, 2, 17, top - api.MaxPeriod - 1} {
			for _, from := range []int{1, since} {
				moved := hopped(1, since, 0, from)
				x := with(scene(), lot(6, moved, 8, 8), func(x *api.Ledger) { x.Params.Unbonding, x.Params.MaxAge = unbonding, 0 })
				for h := since + unbonding - 1; h <= since+unbonding+1; h++ {
					if h < 20 {
						continue
					}
					x.Height = h
					for _, to := range []int{0, 2} {
						if h <= since+unbonding {
							redelegate(6, moved, 8, to).refuses(t, x, api.ErrChain)
						} else {
							redelegate(6, moved, 8, to).is(t, x, told{lot: api.Lot{Stamp: hopped(to, h, 1, since), Amount: 8, Shares: 8}})
						}
					}
					// What did not move before may move at any height.
					redelegate(2, bare(1, 3), 5, 2).is(t, x, told{lot: api.Lot{Stamp: hopped(2, h, 1, 3), Amount: 4, Shares: 4}})
				}
			}
		}
	}
}

// TestRedelegateCap: P18.3 and P18.5: as many live hops of an owner between two validators as there may be, and one less; those of others, from elsewhere, or to elsewhere do not count.
func TestRedelegateCap(t *testing.T) {
	for most := 1; most <= api.MaxEntries; most++ {
		for live := most - 1; live <= most+1; live++ {
			x := with(scene(), func(x *api.Ledger) {
				x.Params.Entries = most
				x.Hops = []api.Hop{jump(2, 1, 2, 16), jump(1, 1, 0, 17), jump(2, 0, 1, 18), jump(2, 2, 0, 18)}
				for i := range live {
					x.Hops = append(x.Hops, jump(2, 1, 0, 19+min(i/8, 1)))
				}
			})
			if live < most {
				redelegate(2, bare(1, 3), 5, 0).is(t, x, told{lot: api.Lot{Stamp: hopped(0, 20, 1, 3), Amount: 4, Shares: 4}})
			} else {
				redelegate(2, bare(1, 3), 5, 0).refuses(t, x, api.ErrCap)
			}
			redelegate(2, bare(1, 3), 5, 5).is(t, x, told{lot: api.Lot{Stamp: hopped(5, 20, 1, 3), Amount: 4, Shares: 4}})
			redelegate(0, bare(1, 20), 7, 0).is(t, x, told{lot: api.Lot{Stamp: hopped(0, 20, 1, 20), Amount: 7, Shares: 7}})
		}
	}
}

// TestRedelegateShort: P18.3: the operator leaves its MinSelf, or one less; somebody else does; and a validator that is not free.
func TestRedelegateShort(t *testing.T) {
	x := with(scene(), func(x *api.Ledger) { x.Hops = nil })
	for n := uint64(1); n <= 50; n++ {
		for _, to := range []int{1, 2} {
			after := redelegate(0, bare(0, 1), n, to).is(t, x, told{lot: api.Lot{Stamp: hopped(to, 20, 0, 1), Amount: n, Shares: n}})
			want := api.Validator{Operator: 0, MinSelf: 20, Status: api.StatusActive}
			if n > 30 {
				want.Status, want.Until = api.StatusJailed, 27
			}
			if after.Validators[0] != want || after.Validators[to] != x.Validators[to] {
				t.Errorf("after %d: %+v", n, after.Validators)
			}
		}
	}
	for _, c := range []call{
		redelegate(2, bare(0, 1), 30, 1),  // somebody else
		redelegate(0, bare(1, 20), 7, 5),  // of another validator
		redelegate(0, bare(1, 20), 7, 0),  // to its own
		redelegate(2, bare(2, 4), 100, 0), // one that is jailed already
		redelegate(3, bare(3, 5), 9, 0),   // one that is tombstoned
		redelegate(1, bare(1, 3), 13, 0),  // 5 of 40 by 50 are left
	} {
		after := c.holds(t, x)
		for v := range x.Validators {
			if after.Validators[v] != x.Validators[v] {
				t.Errorf("%s: %+v", c.name, after.Validators[v])
			}
		}
	}
	if after := redelegate(1, bare(1, 3), 14, 0).holds(t, x); after.Validators[1].Status != api.StatusJailed || after.Validators[1].Until != 27 {
		t.Errorf("idle: %+v", after.Validators[1])
	}
	if after := redelegate(5, bare(5, 20), 1, 0).holds(t, odd(x, at(top))); after.Validators[5].Status != api.StatusJailed || after.Validators[5].Until != top+7 {
		t.Errorf("at the top: %+v", after.Validators[5])
	}
}

// TestUnjailRefused: P18.3: each refusal of an Unjail, alone and ahead of those behind it.
func TestUnjailRefused(t *testing.T) {
	for _, n := range nowhere() {
		unjail(n, 6).refuses(t, scene(), api.ErrUnknown)
		unjail(0, n).refuses(t, scene(), api.ErrUnknown)
		unjail(n, n).refuses(t, scene(), api.ErrUnknown)
		for v := range 6 {
			unjail(n, v).refuses(t, scene(), api.ErrAuth)
		}
	}
	for v := range 6 {
		for from := range 7 {
			if from != v {
				unjail(from, v).refuses(t, scene(), api.ErrAuth)
			}
		}
	}
	unjail(3, 3).refuses(t, scene(), api.ErrTomb)
	unjail(0, 0).refuses(t, scene(), api.ErrState)
	unjail(1, 1).refuses(t, scene(), api.ErrState)
	unjail(5, 5).refuses(t, scene(), api.ErrState)
	unjail(4, 4).refuses(t, scene(), api.ErrJailed)
	// Refusals that come ahead of that of a stake that is too small.
	for v, err := range []api.Errno{api.ErrState, api.ErrState, api.ErrPoor, api.ErrTomb, api.ErrJailed, api.ErrState} {
		unjail(v, v).refuses(t, with(scene(), validator(v, func(x *api.Validator) { x.MinSelf = 1000 })), err)
	}
}

// TestUnjail: P18.3: at its Until, one before it, and one later; with its MinSelf, one less and one more.
func TestUnjail(t *testing.T) {
	for h := 20; h < 24; h++ {
		x := odd(scene(), at(h))
		for v, until := range map[int]int{2: 20, 4: 21} {
			if h < until {
				unjail(v, v).refuses(t, x, api.ErrJailed)
				continue
			}
			for more, err := range map[uint64]api.Errno{0: api.ErrPoor, 1: api.OK, 2: api.OK} {
				y := with(x, validator(v, func(x *api.Validator) { x.MinSelf = x.MinSelf + 1 - more }))
				after := unjail(v, v).is(t, y, refused(err))
				want := y.Validators[v]
				if err == api.OK {
					want.Status = api.StatusIdle
				}
				if after.Validators[v] != want {
					t.Errorf("unjailed: %+v; want %+v", after.Validators[v], want)
				}
			}
		}
	}
	unjail(2, 2).is(t, odd(scene(), at(top)), told{})
	beyond := with(scene(), at(top), validator(2, func(x *api.Validator) { x.Until = top + 1 }))
	unjail(2, 2).refuses(t, beyond, api.ErrJailed)
}
