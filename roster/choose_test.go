package roster_test

import (
	"slices"
	"testing"

	"distraint/api"
)

// bits tells n bools, of which each is a bit of a number.
func bits(n, number int) (l []bool) {
	for i := range n {
		l = append(l, number>>i&1 == 1)
	}
	return l
}

// TestChooseAll: P16.3: of validators in all states, each choice that there is.
func TestChooseAll(t *testing.T) {
	l := states()
	free := bits(10, 0b0001101111)
	for number := range 1 << 10 {
		on := bits(10, number)
		want := told{}
		for i, x := range l {
			switch {
			case on[i] && !free[i]:
				want.err = api.ErrState
			case on[i]:
				x.Status = active
			case free[i]:
				x.Status = idle
			}
			want.roster = append(want.roster, x)
		}
		if want.err != api.OK {
			want.roster = nil
		}
		choose(on...).is(t, l, want)
	}
}

// TestChooseOne: P16.3, written out: each status, chosen or not; nothing else changes.
func TestChooseOne(t *testing.T) {
	for _, x := range []struct{ before, flags, off, on int }{
		{idle, clean, idle, active}, {idle, props, idle, active}, {active, clean, idle, active}, {active, props, idle, active},
		{jailed, clean, jailed, 0}, {jailed, props, jailed, 0}, {tomb, atts, tomb, 0}, {tomb, both, tomb, 0},
	} {
		l := list(one(0, 1, idle, 0, clean), one(9, 7, x.before, 30, x.flags), one(1, 1, active, 0, clean))
		off := list(one(0, 1, idle, 0, clean), one(9, 7, x.off, 30, x.flags), one(1, 1, active, 0, clean))
		choose(false, false, true).is(t, l, told{roster: off})
		if x.on == 0 {
			choose(false, true, true).is(t, l, refused(api.ErrState))
			choose(true, true, false).is(t, l, refused(api.ErrState))
			continue
		}
		on := list(one(0, 1, active, 0, clean), one(9, 7, x.on, 30, x.flags), one(1, 1, idle, 0, clean))
		choose(true, true, false).is(t, l, told{roster: on})
	}
}

// TestChooseLength: P16.3: a choice that is shorter or longer than the roster, ahead of one of a validator that is not free.
func TestChooseLength(t *testing.T) {
	for _, l := range valids() {
		for _, n := range []int{0, 1, len(l) - 1, len(l), len(l) + 1, len(l) + 40, 2 * len(l)} {
			for _, number := range []int{0, 1, -1} {
				if n < 0 {
					continue
				}
				if n != len(l) {
					choose(bits(n, number)...).is(t, l, refused(api.ErrArg))
				} else {
					choose(bits(n, number)...).holds(t, l)
				}
			}
		}
	}
	choose().is(t, nil, told{})
	choose([]bool{}...).is(t, []api.Validator{}, told{})
	choose(true).is(t, nil, refused(api.ErrArg))
	choose(false).is(t, nil, refused(api.ErrArg))
}

// TestChooseFull: P16.3: of 32 validators, each alone, and all that are free.
func TestChooseFull(t *testing.T) {
	l := full(32)
	all := make([]bool, 32)
	for i, x := range l {
		only := make([]bool, 32)
		only[i], all[i] = true, isFree(x)
		if !isFree(x) {
			choose(only...).is(t, l, refused(api.ErrState))
			continue
		}
		got := choose(only...)
		got.holds(t, l)
		if on := wantActive(got.ask(l).roster).each; !slices.Equal(on, only) {
			t.Errorf("%v are active; want %d alone", on, i)
		}
	}
	got := choose(all...)
	got.holds(t, l)
	if on := wantActive(got.ask(l).roster).each; !slices.Equal(on, all) {
		t.Errorf("%v are active; want %v", on, all)
	}
}
