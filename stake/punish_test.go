package stake_test

import (
	"math"
	"testing"

	"distraint/api"
)

// TestPunishRefused: P18.3: what roster.Punish refuses, in its order: numbers that are no class, that are no validator's, tombstoned ones, and what was punished already.
func TestPunishRefused(t *testing.T) {
	for _, class := range []int{math.MinInt, -1, 0, 3, 4, math.MaxInt} {
		for _, v := range append(nowhere(), 0, 1, 2, 3, 4, 5, 6) {
			punish(v, class).refuses(t, scene(), api.ErrArg)
		}
	}
	for _, class := range []int{api.ClassAttest, api.ClassPropose} {
		for _, v := range append(nowhere(), 6) {
			punish(v, class).refuses(t, scene(), api.ErrUnknown)
		}
		punish(3, class).refuses(t, scene(), api.ErrTomb)
		punish(0, class).refuses(t, bankOnly(5), api.ErrUnknown)
	}
	punish(4, api.ClassPropose).refuses(t, scene(), api.ErrPunished)
	punish(5, api.ClassPropose).refuses(t, scene(), api.ErrPunished)
}

// TestPunish: P18.3: each class, of each validator that may be punished: until the time of a jail from now on, or an Until that is later; then for the same class, and for the other one.
func TestPunish(t *testing.T) {
	for _, height := range []int{20, 21, 1000, top} {
		x := odd(scene(), at(height))
		for _, v := range []int{0, 1, 2, 4, 5} {
			want := x.Validators[v]
			want.Attest, want.Status, want.Until = true, api.StatusTomb, height+7
			after := punish(v, api.ClassAttest).is(t, x, told{})
			if after.Validators[v] != want {
				t.Errorf("%d: %+v; want %+v", v, after.Validators[v], want)
			}
			punish(v, api.ClassAttest).refuses(t, after, api.ErrTomb)
			punish(v, api.ClassPropose).refuses(t, after, api.ErrTomb)
			unjail(v, v).refuses(t, odd(after, at(top)), api.ErrTomb)
			delegate(0, v, 1).refuses(t, after, api.ErrTomb)
		}
		for _, v := range []int{0, 1, 2} {
			want := x.Validators[v]
			want.Propose, want.Status, want.Until = true, api.StatusJailed, height+7
			after := punish(v, api.ClassPropose).is(t, x, told{})
			if after.Validators[v] != want {
				t.Errorf("%d: %+v; want %+v", v, after.Validators[v], want)
			}
			punish(v, api.ClassPropose).refuses(t, after, api.ErrPunished)
			after = punish(v, api.ClassAttest).is(t, after, told{})
			want.Attest, want.Status = true, api.StatusTomb
			if after.Validators[v] != want {
				t.Errorf("%d: %+v; want %+v", v, after.Validators[v], want)
			}
		}
	}
	for _, until := range []int{1, 26, 27, 28, later} {
		x := with(scene(), validator(1, func(x *api.Validator) { x.Until = until }))
		after := punish(1, api.ClassPropose).is(t, x, told{})
		if got := after.Validators[1].Until; got != max(until, 27) {
			t.Errorf("until %d: %d", until, got)
		}
	}
}

// TestGrant: P18.3: nothing, all that is kept, and one more; what was burned, or is bonded, is not granted.
func TestGrant(t *testing.T) {
	for _, n := range nowhere() {
		for _, a := range []uint64{0, 1, 91, great} {
			grant(n, a).refuses(t, scene(), api.ErrUnknown)
		}
	}
	for _, a := range []uint64{91, 92, 221, great} {
		grant(6, a).refuses(t, scene(), api.ErrPoor)
	}
	for _, a := range []uint64{0, 1, 89, 90} {
		for _, account := range []int{0, 5, 6} {
			after := grant(account, a).is(t, scene(), told{})
			if after.Bank.Pools[api.PoolReward] != 90-a || after.Bank.Liquid[account] != scene().Bank.Liquid[account]+a {
				t.Errorf("granted: %v", after.Bank)
			}
		}
	}
	grant(0, 0).is(t, bankOnly(5), told{})
	grant(0, 1).refuses(t, bankOnly(5), api.ErrPoor)
}
