package roster_test

import (
	"slices"
	"testing"

	"distraint/api"
)

// TestCreateEmpty: P16.2: the first validator of all, of each account.
func TestCreateEmpty(t *testing.T) {
	for operator := range 64 {
		for _, least := range []uint64{1, 2, 1 << 62, 1 << 63, great} {
			x := list(api.Validator{Operator: operator, MinSelf: least, Status: 1})
			create(operator, least).is(t, nil, told{roster: x})
			create(operator, least).is(t, []api.Validator{}, told{roster: x})
		}
	}
}

// TestCreateBehind: P16.2: a validator comes last, whatever state those before it are in; they stay as they are.
func TestCreateBehind(t *testing.T) {
	for _, l := range valids() {
		for operator := range 64 {
			switch {
			case wantFind(l, operator).is:
				create(operator, 1).is(t, l, refused(api.ErrDouble))
				create(operator, great).is(t, l, refused(api.ErrDouble))
			case len(l) == 32:
				create(operator, 1).is(t, l, refused(api.ErrFull))
			default:
				create(operator, 9).is(t, l, told{roster: slices.Concat(l, list(one(operator, 9, idle, 0, clean))), n: len(l)})
			}
		}
	}
}

// TestCreateFull: P16.2: from none to 32 validators, and one more, behind all other errors.
func TestCreateFull(t *testing.T) {
	var l []api.Validator
	for i := range 32 {
		create(63-i, 1).is(t, l, told{roster: slices.Concat(l, list(one(63-i, 1, idle, 0, clean))), n: i})
		l = create(63-i, 1).ask(l).roster
	}
	create(0, 1).is(t, l, refused(api.ErrFull))
	create(31, 1).is(t, l, refused(api.ErrFull))
	create(32, 1).is(t, l, refused(api.ErrDouble))
	create(63, 1).is(t, l, refused(api.ErrDouble))
	create(0, 0).is(t, l, refused(api.ErrArg))
	create(63, 0).is(t, l, refused(api.ErrArg))
	create(64, 1).is(t, l, refused(api.ErrRange))
	create(-1, 0).is(t, l, refused(api.ErrRange))
	create(0, 1).is(t, l[:31], told{roster: append(slices.Clone(l[:31]), one(0, 1, idle, 0, clean)), n: 31})
	create(32, 1).is(t, l[:31], told{roster: l, n: 31})
	create(32, 1).is(t, l[1:], refused(api.ErrDouble))
	create(63, 1).is(t, l[1:], told{roster: append(slices.Clone(l[1:]), one(63, 1, idle, 0, clean)), n: 31})
}

// TestCreateWrong: P16.2: operators that are no accounts, ahead of a minSelf of 0, ahead of an operator that has a validator.
func TestCreateWrong(t *testing.T) {
	for _, l := range valids() {
		for _, operator := range strangers() {
			create(operator, 0).is(t, l, refused(api.ErrRange))
			create(operator, 1).is(t, l, refused(api.ErrRange))
			create(operator, great).is(t, l, refused(api.ErrRange))
		}
		for _, operator := range []int{0, 3, 5, 15, 63} {
			create(operator, 0).is(t, l, refused(api.ErrArg))
		}
	}
}

// TestCreateApart: P16.2: what is created in one roster twice is two rosters, of which neither shows in the other.
func TestCreateApart(t *testing.T) {
	room := append(make([]api.Validator, 0, 20), begun()...)
	a := create(10, 1).ask(room).roster
	b := create(11, 2).ask(room).roster
	c := create(12, 3).ask(a).roster
	d := create(13, 4).ask(a).roster
	for _, x := range [][2][]api.Validator{
		{a, append(begun(), one(10, 1, idle, 0, clean))},
		{b, append(begun(), one(11, 2, idle, 0, clean))},
		{c, append(begun(), one(10, 1, idle, 0, clean), one(12, 3, idle, 0, clean))},
		{d, append(begun(), one(10, 1, idle, 0, clean), one(13, 4, idle, 0, clean))},
	} {
		if !slices.Equal(x[0], x[1]) {
			t.Errorf("%v; want %v", x[0], x[1])
		}
	}
}
