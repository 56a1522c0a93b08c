package roster_test

import (
	"testing"

	"distraint/api"
)

// after tells the roster that a call tells.
func (c call) after(t *testing.T, l []api.Validator) []api.Validator {
	t.Helper()
	c.holds(t, l)
	got := c.ask(l)
	if got.err != api.OK {
		t.Fatalf("%s of %s: %v", c.name, brief(l), got.err)
	}
	return got.roster
}

// TestExamples: the chapter's table, each of its rows.
func TestExamples(t *testing.T) {
	l := create(3, 9).after(t, create(5, 1).after(t, nil))
	create(64, 1).is(t, nil, refused(api.ErrRange))
	create(5, 0).is(t, nil, refused(api.ErrArg))
	create(3, 1).is(t, l, refused(api.ErrDouble))
	find(3).is(t, l, told{n: 1, is: true})
	find(4).is(t, l, told{})

	chosen := choose(true, false).after(t, l)
	acting().is(t, chosen, told{each: []bool{true, false}})
	choose(true).is(t, l, refused(api.ErrArg))
	that := jail(0, 30).after(t, chosen)
	free().is(t, that, told{each: []bool{false, true}})
	choose(true, true).is(t, that, refused(api.ErrState))

	unjail(0, 3, 30).is(t, that, refused(api.ErrAuth))
	unjail(0, 5, 29).is(t, that, refused(api.ErrJailed))
	unjail(1, 3, 99).is(t, that, refused(api.ErrState))
	unjail(2, 3, 0).is(t, that, refused(api.ErrUnknown))
	free().is(t, unjail(0, 5, 30).after(t, that), told{each: []bool{true, true}})

	once := punish(1, 2, 30).after(t, l)
	punished(1, 2).is(t, once, refused(api.ErrPunished))
	punished(1, 1).is(t, once, told{})
	punished(1, 3).is(t, once, refused(api.ErrArg))
	twice := punish(1, 1, 20).after(t, once)
	if twice[1] != one(3, 9, 4, 30, both) {
		t.Errorf("%v", twice)
	}
	refuse(1).is(t, twice, refused(api.ErrTomb))
	unjail(1, 3, 99).is(t, twice, refused(api.ErrTomb))
	punished(1, 2).is(t, twice, refused(api.ErrTomb))

	encoding().is(t, l, told{bytes: []byte{2, 5, 1, 1, 0, 0, 3, 9, 1, 0, 0}})
	refuses(t, []byte{1, 5, 1, 1, 0, 1}, api.ErrState, 1)
	refuses(t, []byte{1, 5, 0, 1, 0, 0}, api.ErrArg, 1)
	refuses(t, []byte{2, 5, 1, 1, 0, 0, 5, 1, 1, 0, 0}, api.ErrDouble, 6)
	refuses(t, []byte{33}, api.ErrRange, 0)
}
