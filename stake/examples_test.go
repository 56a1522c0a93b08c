package stake_test

import (
	"slices"
	"testing"

	"distraint/api"
	"distraint/params"
	"distraint/stake"
)

// TestExamples: P18.1 to P18.3: the chapter's table, row by row, on one stake.
func TestExamples(t *testing.T) {
	p := params.Default()
	p.Unbonding, p.MaxAge, p.JailTime, p.Entries = 3, 3, 2, 1
	s, err := stake.New(p, []uint64{100, 100, 100})
	if err != api.OK {
		t.Fatal(err)
	}
	x := s.Save()
	does := func(c call, want told) {
		t.Helper()
		if model, _ := c.model(x); !model.same(want) {
			t.Errorf("%s: the model: %+v; want %+v", c.name, model, want)
		}
		x = c.goes(t, s, x)
	}
	does(create(0, 20, 50), told{v: 0, n: 50})
	does(create(0, 1, 1), refused(api.ErrDouble))
	does(create(1, 20, 19), refused(api.ErrPoor))
	does(create(1, 20, 200), refused(api.ErrPoor))
	does(delegate(2, 0, 30), told{n: 30})
	does(delegate(2, 1, 1), refused(api.ErrUnknown))

	does(tick(), told{tock: api.Tock{Height: 1, In: []int{0}}})
	if n := s.Tokens(); !slices.Equal(n, []uint64{80}) || s.Height() != 2 {
		t.Errorf("%v at %d", n, s.Height())
	}

	does(undelegate(0, bare(0, 1), 31), told{n: 31})
	does(undelegate(0, bare(0, 1), 1), refused(api.ErrCap))
	does(unjail(0, 0), refused(api.ErrJailed))
	does(undelegate(2, bare(0, 2), 1), refused(api.ErrUnknown))

	does(create(1, 5, 10), told{v: 1, n: 10})
	does(redelegate(2, bare(0, 1), 10, 1), told{lot: api.Lot{Stamp: hopped(1, 2, 0, 1), Amount: 10, Shares: 10}})
	does(redelegate(2, hopped(1, 2, 0, 1), 1, 0), refused(api.ErrChain))
	does(redelegate(2, bare(0, 1), 1, 2), refused(api.ErrUnknown))

	does(tick(), told{tock: api.Tock{Height: 2, In: []int{1}}})
	does(cut(0, 1, all/2, all/10), told{toll: api.Toll{
		Classes: []api.Loss{{Stamp: bare(0, 1), Amount: 19}, {Stamp: hopped(1, 2, 0, 1), Amount: 5}}, Entries: []api.Shave{{Amount: 15}},
		Bonded: 24, Unbonding: 15, Kept: 3, Burned: 36,
	}})

	does(punish(0, 1), told{})
	does(unjail(0, 0), refused(api.ErrTomb))
	does(tick(), told{tock: api.Tock{Height: 3}})
	does(tick(), told{tock: api.Tock{Height: 4}})
	does(tick(), told{tock: api.Tock{Height: 5, Paid: []api.Entry{entry(0, bare(0, 1), 2, 31, 16)}, Hops: []api.Hop{jump(2, 0, 1, 2)}}})
	does(grant(1, 3), told{})
	if b := x.Bank; !slices.Equal(b.Liquid, []uint64{66, 93, 70}) || b.Pools != [4]uint64{35, 0, 36, 0} {
		t.Errorf("at last: %v", b)
	}
}

// TestShortfallExample: the document's sixth example: the operator of a validator that undelegates so much that it falls below its minimum is jailed at once.
func TestShortfallExample(t *testing.T) {
	s, err := stake.New(params.Default(), []uint64{100})
	if err != api.OK {
		t.Fatal(err)
	}
	s.Create(0, 40, 50)
	if n, err := s.Undelegate(0, bare(0, 1), 11); n != 11 || err != api.OK {
		t.Fatal(n, err)
	}
	if x := s.Save().Validators[0]; x.Status != api.StatusJailed || x.Until != 21 {
		t.Error(x)
	}
}
