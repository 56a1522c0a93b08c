package roster_test

import (
	"slices"
	"testing"

	"distraint/api"
	"distraint/roster"
)

// strange has validators that no roster has: in no order, of operators and statuses that are none, and more than there may be.
func strange() (l []api.Validator) {
	for i, operator := range append(strangers(), 0, 63, 5, 5, 0) {
		for _, status := range append(statusless(), idle, active, jailed, tomb) {
			l = append(l, one(operator, uint64(i), status, operator, i%4))
		}
	}
	return append(l, api.Validator{}, one(64, 0, active, 0, atts))
}

// TestFind: P16.2: each operator's validator; nobody else has one.
func TestFind(t *testing.T) {
	for _, l := range valids() {
		has := map[int]bool{}
		for i, x := range l {
			find(x.Operator).is(t, l, told{n: i, is: true})
			has[x.Operator] = true
		}
		for operator := -3; operator < 70; operator++ {
			if !has[operator] {
				find(operator).is(t, l, told{})
			}
		}
		for _, operator := range strangers() {
			find(operator).is(t, l, told{})
		}
	}
}

// TestFindAny: P16.2: the first one of several, in lists that are no rosters, whatever their operators are.
func TestFindAny(t *testing.T) {
	l := strange()
	each := append(statusless(), idle, active, jailed, tomb)
	for i, operator := range append(strangers(), 0, 63, 5) {
		find(operator).is(t, l, told{n: i * len(each), is: true})
	}
	for _, operator := range []int{1, 6, 62, 66, 127, -3, -5} {
		find(operator).is(t, l, told{})
	}
	again := append(begun(), begun()...)
	find(3).is(t, again, told{n: 1, is: true})
	find(5).is(t, again, told{n: 0, is: true})
	find(5).is(t, again[1:], told{n: 1, is: true})
	find(0).is(t, make([]api.Validator, 2), told{n: 0, is: true})
	late := append(slices.Repeat(list(one(7, 1, idle, 0, clean)), 5000), one(8, 1, idle, 0, clean))
	find(8).is(t, late, told{n: 5000, is: true})
	find(7).is(t, late, told{n: 0, is: true})
}

// TestStanding: P16.2, written out: what Free, Active and Refuse tell of each status, whatever the flags and Until are, and of numbers that are none.
func TestStanding(t *testing.T) {
	for _, until := range []int{-1, 0, 30, top, top + 1} {
		for flags := range 4 {
			for _, x := range []struct {
				status     int
				free, acts bool
				err        api.Errno
			}{{idle, true, false, api.OK}, {active, true, true, api.OK}, {jailed, false, false, api.OK}, {tomb, false, false, api.ErrTomb}} {
				l := list(one(5, 1, x.status, until, flags))
				free().is(t, l, told{each: []bool{x.free}})
				acting().is(t, l, told{each: []bool{x.acts}})
				refuse(0).is(t, l, refused(x.err))
			}
			for _, status := range statusless() {
				l := list(one(5, 0, status, until, flags))
				free().is(t, l, told{each: []bool{false}})
				acting().is(t, l, told{each: []bool{false}})
				refuse(0).is(t, l, told{})
			}
		}
	}
	free().is(t, nil, told{})
	acting().is(t, nil, told{})
	free().is(t, states(), told{each: []bool{true, true, true, true, false, true, true, false, false, false}})
	acting().is(t, states(), told{each: []bool{false, true, false, true, false, false, true, false, false, false}})
	for i, err := range []api.Errno{8: api.ErrTomb, 9: api.ErrTomb} {
		refuse(i).is(t, states(), refused(err))
	}
}

// TestStandingAny: P16.2: of lists that are no rosters, and of longer ones.
func TestStandingAny(t *testing.T) {
	for _, l := range append(invalids(), strange(), full(64), slices.Repeat(states(), 100)) {
		free().holds(t, l)
		acting().holds(t, l)
		for i := range l {
			refuse(i).holds(t, l)
		}
		refuse(len(l)).is(t, l, refused(api.ErrUnknown))
	}
	refuse(40).is(t, slices.Repeat(list(one(7, 1, active, 0, clean)), 41), told{})
	refuse(999).is(t, slices.Repeat(states(), 100), refused(api.ErrTomb))
}

// TestRefuseUnknown: P16.2: numbers that are no validator's, and the ones next to them that are.
func TestRefuseUnknown(t *testing.T) {
	for _, l := range valids() {
		for _, v := range append(foreign(), len(l), len(l)+1) {
			refuse(v).is(t, l, refused(api.ErrUnknown))
		}
		for v := range l {
			if got := refuse(v).ask(l).err; got == api.ErrUnknown {
				t.Errorf("there is a validator %d in %s", v, brief(l))
			}
		}
	}
}

// TestEachApart: P16.2: each answer is memory of its own.
func TestEachApart(t *testing.T) {
	for _, ask := range []func([]api.Validator) []bool{roster.Free, roster.Active} {
		l := states()
		a, b := ask(l), ask(l)
		want := slices.Clone(b)
		a = a[:cap(a)]
		for i := range a {
			a[i] = !a[i]
		}
		if !slices.Equal(b, want) || len(b) != len(l) {
			t.Errorf("%v; want %v", b, want)
		}
	}
}
