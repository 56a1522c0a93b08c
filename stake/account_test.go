package stake_test

import (
	"math"
	"testing"

	"distraint/api"
)

// nowhere are numbers of no account and no validator of scene.
func nowhere() []int {
	return []int{math.MinInt, -1 << 32, -2, -1, 7, 8, 31, 32, 63, 64, 1 << 32, math.MaxInt}
}

// TestTransfer: P18.3: what bank.Send refuses, in its order; and nothing, all that is there, and one more.
func TestTransfer(t *testing.T) {
	for _, n := range nowhere() {
		for _, a := range []uint64{0, 1, 101, great} {
			transfer(n, 0, a).refuses(t, scene(), api.ErrUnknown)
			transfer(0, n, a).refuses(t, scene(), api.ErrUnknown)
			transfer(n, n, a).refuses(t, scene(), api.ErrUnknown)
		}
	}
	for _, a := range []uint64{0, 1, 101, great} {
		transfer(0, 0, a).refuses(t, scene(), api.ErrArg)
	}
	transfer(0, 6, 0).refuses(t, scene(), api.ErrArg)
	transfer(5, 6, 0).refuses(t, scene(), api.ErrArg)
	for _, a := range []uint64{101, 102, great} {
		transfer(0, 6, a).refuses(t, scene(), api.ErrPoor)
	}
	transfer(5, 0, 1).refuses(t, scene(), api.ErrPoor)
	for _, a := range []uint64{1, 50, 99, 100} {
		after := transfer(0, 6, a).is(t, scene(), told{})
		if l := after.Bank.Liquid; l[0] != 100-a || l[6] != 50+a {
			t.Errorf("after %d: %v", a, l)
		}
	}
	transfer(4, 5, supply-1476).is(t, rich(), told{})
	transfer(4, 5, supply-1475).refuses(t, rich(), api.ErrPoor)
}

// TestCreateRefused: P18.3: each refusal of a Create, alone and ahead of those behind it.
func TestCreateRefused(t *testing.T) {
	for _, n := range nowhere() {
		for _, x := range [][2]uint64{{0, 0}, {0, 5}, {1, 0}, {1, 1}, {great, great}} {
			create(n, x[0], x[1]).refuses(t, scene(), api.ErrUnknown)
		}
	}
	for _, from := range []int{0, 6} {
		for _, a := range []uint64{0, 1, great} {
			create(from, 0, a).refuses(t, scene(), api.ErrArg)
		}
	}
	create(0, 0, 0).refuses(t, crowd(), api.ErrArg)
	for _, x := range [][2]uint64{{1, 0}, {1, 1}, {9, 8}, {1, 101}} {
		create(0, x[0], x[1]).refuses(t, scene(), api.ErrDouble)
		create(63, x[0], x[1]).refuses(t, crowd(), api.ErrDouble)
		create(0, x[0], x[1]).refuses(t, crowd(), api.ErrFull)
		create(31, x[0], x[1]).refuses(t, crowd(), api.ErrFull)
	}
	for _, x := range [][2]uint64{{1, 0}, {20, 19}, {50, 49}, {51, 50}, {great, great - 1}, {60, 59}} {
		create(6, x[0], x[1]).refuses(t, scene(), api.ErrPoor)
	}
	for _, x := range [][2]uint64{{1, 51}, {51, 51}, {great, great}, {20, great}} {
		create(6, x[0], x[1]).refuses(t, scene(), api.ErrPoor)
	}
	create(2, 1, 1001).refuses(t, fullOfClasses(), api.ErrPoor)
	create(2, 1, 1000).refuses(t, fullOfClasses(), api.ErrFull)
	create(2, 7, 6).refuses(t, fullOfClasses(), api.ErrPoor)
}

// TestCreate: P18.3: a new validator, which is idle, has its operator's lot since now, and is the last one of its roster.
func TestCreate(t *testing.T) {
	for _, x := range [][2]uint64{{1, 1}, {1, 2}, {1, 50}, {20, 20}, {49, 50}, {50, 50}} {
		after := create(6, x[0], x[1]).is(t, scene(), told{v: 6, n: x[1]})
		if last := after.Validators[6]; last != (api.Validator{Operator: 6, MinSelf: x[0], Status: api.StatusIdle}) {
			t.Errorf("created: %+v", last)
		}
		if c := after.Holding.Classes; c[len(c)-1] != class(bare(6, 20), x[1], x[1]) || after.Bank.Pools[0] != 221+x[1] || after.Bank.Liquid[6] != 50-x[1] {
			t.Errorf("created: %s", brief(after))
		}
	}
	create(0, 5, 5).is(t, bankOnly(5), told{v: 0, n: 5})
	create(1, 5, supply).is(t, bankOnly(0, supply), told{v: 0, n: supply})
	create(0, supply, supply).is(t, odd(bankOnly(supply), at(top)), told{v: 0, n: supply})
	one := with(crowd(), func(x *api.Ledger) {
		x.Validators, x.Holding.Classes, x.Holding.Positions = x.Validators[:31], x.Holding.Classes[:31], x.Holding.Positions[1:]
	})
	create(32, 7, 3200).is(t, one, told{v: 31, n: 3200})
	create(63, 7, 300).refuses(t, one, api.ErrDouble)
}

// TestDelegateRefused: P18.3: each refusal of a Delegate, alone and ahead of those behind it.
func TestDelegateRefused(t *testing.T) {
	for _, n := range append(nowhere(), 6) {
		for _, a := range []uint64{0, 1, 101, great} {
			delegate(0, n, a).refuses(t, scene(), api.ErrUnknown)
			if n == 6 {
				continue
			}
			delegate(n, 0, a).refuses(t, scene(), api.ErrUnknown)
			delegate(n, 3, a).refuses(t, scene(), api.ErrUnknown)
			delegate(n, n, a).refuses(t, scene(), api.ErrUnknown)
		}
	}
	for _, a := range []uint64{0, 1, 100, 101, great} {
		delegate(0, 3, a).refuses(t, scene(), api.ErrTomb)
	}
	for _, a := range []uint64{101, 102, great} {
		delegate(0, 0, a).refuses(t, scene(), api.ErrPoor)
	}
	delegate(5, 0, 1).refuses(t, scene(), api.ErrPoor)
	for v := range 6 {
		if v != 3 {
			delegate(0, v, 0).refuses(t, scene(), api.ErrDust)
		}
	}
	delegate(2, 0, 1001).refuses(t, fullOfClasses(), api.ErrPoor)
	for _, a := range []uint64{0, 1, 1000} {
		delegate(2, 0, a).refuses(t, fullOfClasses(), api.ErrFull)
	}
	for _, a := range []uint64{3, 4, 300} {
		delegate(2, 2, a).refuses(t, dear(), api.ErrOver)
	}
	delegate(2, 2, 301).refuses(t, dear(), api.ErrPoor)
	delegate(2, 2, 0).refuses(t, dear(), api.ErrDust)
}

// TestDelegate: P18.3: a lot since now, into a class of its own or one that is there, for validators of each status but tombstoned.
func TestDelegate(t *testing.T) {
	for _, a := range []uint64{1, 2, 99, 100} {
		for _, v := range []int{0, 1, 2, 4, 5} {
			after := delegate(0, v, a).is(t, scene(), told{n: a})
			if after.Bank.Pools[0] != 221+a || after.Bank.Liquid[0] != 100-a || after.Validators[v] != scene().Validators[v] {
				t.Errorf("delegated: %s", brief(after))
			}
		}
	}
	// A token of 1 at 20 is worth two shares now.
	half := with(scene(), func(x *api.Ledger) { x.Holding.Classes[5].Pool.Tokens, x.Bank.Pools[2] = 3, 0 })
	delegate(2, 1, 3).is(t, half, told{n: 7})
	delegate(2, 1, 1).is(t, half, told{n: 2})
	delegate(2, 2, 2).is(t, dear(), told{n: 1 << 63})
	delegate(4, 0, supply-1476).is(t, rich(), told{n: supply - 1476})
	delegate(4, 0, supply-1475).refuses(t, rich(), api.ErrPoor)
	delegate(2, 0, 5).is(t, odd(fullOfClasses(), at(1024)), told{n: 5})
	delegate(4, 0, 5).is(t, odd(scene(), at(top)), told{n: 5})
}

// TestUndelegateRefused: P18.3: each refusal of an Undelegate, alone and ahead of those behind it.
func TestUndelegateRefused(t *testing.T) {
	for _, x := range []uint64{0, 1, great} {
		for _, n := range append(nowhere(), 1, 6) {
			undelegate(n, bare(0, 1), x).refuses(t, scene(), api.ErrUnknown)
		}
		for _, n := range append(nowhere(), 6) {
			undelegate(0, bare(n, 1), x).refuses(t, scene(), api.ErrUnknown)
		}
		for _, s := range []api.Stamp{bare(0, 2), bare(1, 1), hopped(0, 1, 1, 1), {}, {Validator: 0, Since: 1, Prior: -1, From: 1}, hopped(0, 15, 1, 4), hopped(0, 15, 2, 3), bare(0, top+1)} {
			undelegate(0, s, x).refuses(t, scene(), api.ErrUnknown)
		}
	}
	for _, x := range []uint64{51, 52, 80, great} {
		undelegate(0, bare(0, 1), x).refuses(t, scene(), api.ErrPoor)
	}
	undelegate(0, bare(0, 1), 0).refuses(t, scene(), api.ErrDust)
	for _, x := range []uint64{0, 1, 8} {
		undelegate(3, bare(3, 5), x).refuses(t, scene(), api.ErrDust)
	}
	// The account 2 has two entries of the validator 0.
	undelegate(2, bare(0, 1), 31).refuses(t, scene(), api.ErrPoor)
	undelegate(2, bare(0, 1), 0).refuses(t, scene(), api.ErrDust)
	for _, x := range []uint64{1, 30} {
		undelegate(2, bare(0, 1), x).refuses(t, scene(), api.ErrCap)
	}
	full := fullOfEntries()
	undelegate(1, hopped(0, 14, 1, 3), 7).refuses(t, full, api.ErrPoor)
	undelegate(1, hopped(0, 14, 1, 3), 6).refuses(t, full, api.ErrCap)
	undelegate(1, bare(1, 3), 20).refuses(t, full, api.ErrFull)
	undelegate(0, bare(0, 1), 31).refuses(t, full, api.ErrFull)
}

// TestUndelegate: P18.3: an entry of what the shares are worth, created now; nothing of the pools goes elsewhere.
func TestUndelegate(t *testing.T) {
	for x, a := range map[uint64]uint64{2: 1, 5: 4, 19: 15, 20: 16} {
		after := undelegate(1, bare(1, 3), x).is(t, scene(), told{n: a})
		if last := after.Entries[5]; last != entry(1, bare(1, 3), 20, a, a) || after.Bank.Pools != [4]uint64{221 - a, 45 + a, 70, 90} {
			t.Errorf("undelegated: %s", brief(after))
		}
	}
	after := undelegate(3, bare(3, 5), 9).is(t, scene(), told{n: 1})
	if len(after.Holding.Classes) != 9 || len(after.Holding.Positions) != 11 {
		t.Errorf("undelegated: %s", brief(after))
	}
	room := with(fullOfEntries(), func(x *api.Ledger) { x.Entries = x.Entries[1:] })
	undelegate(0, bare(0, 1), 1).is(t, room, told{n: 1})
	undelegate(0, bare(0, 1), 1).is(t, odd(scene(), at(top)), told{n: 1})
	undelegate(5, bare(0, 1), supply).is(t, with(bankOnly(make([]uint64, 6)...), lot(5, bare(0, 1), supply, supply), func(x *api.Ledger) {
		x.Validators = []api.Validator{{Operator: 1, MinSelf: great, Status: api.StatusActive}}
	}), told{n: supply})
}

// TestUndelegateCap: P18.3 and P18.5: as many live entries of an owner and a validator as there may be, of whichever stamps and amounts, and one less; those of others do not count.
func TestUndelegateCap(t *testing.T) {
	for most := 1; most <= api.MaxEntries; most++ {
		for live := most - 1; live <= most+1; live++ {
			x := with(scene(), func(x *api.Ledger) {
				x.Params.Entries = most
				x.Entries = []api.Entry{entry(1, bare(1, 3), 16, 5, 5), entry(3, bare(0, 1), 16, 5, 5)}
				for i := range live {
					s := []api.Stamp{bare(1, 3), hopped(1, 16, 0, 1), bare(1, 20)}[i%3]
					x.Entries = append(x.Entries, entry(3, s, 20, 5, uint64(i%2)))
				}
			})
			if live < most {
				undelegate(3, hopped(1, 16, 0, 1), 10).is(t, x, told{n: 10})
			} else {
				undelegate(3, hopped(1, 16, 0, 1), 10).refuses(t, x, api.ErrCap)
			}
			undelegate(0, bare(1, 20), 7).is(t, x, told{n: 7})
			undelegate(3, bare(3, 5), 9).is(t, x, told{n: 1})
		}
	}
}

// TestUndelegateShort: P18.3: the operator leaves its MinSelf, or one less; somebody else does; and a validator that is not free.
func TestUndelegateShort(t *testing.T) {
	x := with(scene(), func(x *api.Ledger) { x.Entries = nil })
	for n := uint64(1); n <= 50; n++ {
		after := undelegate(0, bare(0, 1), n).is(t, x, told{n: n})
		want := api.Validator{Operator: 0, MinSelf: 20, Status: api.StatusActive}
		if n > 30 {
			want.Status, want.Until = api.StatusJailed, 27
		}
		if after.Validators[0] != want {
			t.Errorf("after %d: %+v", n, after.Validators[0])
		}
	}
	stays := func(c call, x api.Ledger) {
		t.Helper()
		after := c.holds(t, x)
		for v := range x.Validators {
			if after.Validators[v] != x.Validators[v] {
				t.Errorf("%s: %+v", c.name, after.Validators[v])
			}
		}
	}
	stays(undelegate(2, bare(0, 1), 30), x)             // somebody else
	stays(undelegate(0, bare(1, 20), 7), x)             // of another validator
	stays(undelegate(2, bare(2, 4), 100), x)            // one that is jailed already
	stays(undelegate(3, bare(3, 5), 9), x)              // one that is tombstoned
	stays(undelegate(4, bare(4, 6), 5), odd(x, at(30))) // one that is jailed, but need not be
	stays(undelegate(1, bare(1, 3), 13), x)             // 5 of 40 by 50 are left
	short := with(x, validator(0, func(x *api.Validator) { x.MinSelf = 60 }))
	stays(undelegate(2, bare(0, 1), 30), short) // short already, but for another reason
	stays(undelegate(0, bare(1, 20), 7), short)
	stays(delegate(0, 0, 1), short)
	if after := undelegate(0, bare(0, 1), 1).holds(t, short); after.Validators[0].Status != api.StatusJailed {
		t.Errorf("short: %+v", after.Validators[0])
	}
	if after := undelegate(1, bare(1, 3), 14).holds(t, x); after.Validators[1].Status != api.StatusJailed || after.Validators[1].Until != 27 {
		t.Errorf("idle: %+v", after.Validators[1])
	}
}

// TestShortUntil: P18.3: until when the shortfall rule jails: until an Until that is later already; at the last heights, until one behind all heights.
func TestShortUntil(t *testing.T) {
	for _, until := range []int{0, 12, 26, 27, 28, later} {
		x := with(scene(), validator(5, func(x *api.Validator) { x.Until, x.Propose = until, false }))
		after := undelegate(5, bare(5, 20), 1).is(t, x, told{n: 1})
		if got := after.Validators[5]; got.Status != api.StatusJailed || got.Until != max(until, 27) {
			t.Errorf("%d: %+v", until, got)
		}
	}
	for _, time := range []int{1, 7, api.MaxPeriod} {
		x := with(scene(), at(top), func(x *api.Ledger) { x.Params.JailTime = time })
		after := undelegate(5, bare(5, 20), 1).is(t, x, told{n: 1})
		if got := after.Validators[5]; got.Status != api.StatusJailed || got.Until != top+time {
			t.Errorf("%d: %+v", time, got)
		}
	}
}
