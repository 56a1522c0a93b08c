package holding_test

import (
	"math/rand/v2"
	"slices"
	"testing"

	"distraint/api"
	"distraint/stamp"
)

// is: Check tells this of h, and each other call that asks for a valid holding tells it too, whatever else is wrong.
func (x wrong) is(t *testing.T) {
	t.Helper()
	for _, c := range calls() {
		c.is(t, x.h, refused(x.err))
	}
}

// checks: Check tells this of h.
func checks(t *testing.T, h api.Holding, err api.Errno) {
	t.Helper()
	check().is(t, h, refused(err))
}

// TestChecks: P13.1: valid holdings.
func TestChecks(t *testing.T) {
	for _, h := range valids() {
		checks(t, h, api.OK)
	}
	r := source(1)
	for range 3000 {
		checks(t, drawn(r), api.OK)
	}
	checks(t, full(short, one), api.OK)
}

// TestCheckTooMany: P13.1: 1,024 classes and one more, ahead of all else that is wrong.
func TestCheckTooMany(t *testing.T) {
	checks(t, wide(1024), api.OK)
	more := with(wide(1024), func(h *api.Holding) {
		h.Classes = append(h.Classes, class(bare(31, 900), 1, 1))
		h.Positions = append(h.Positions, part(63, bare(31, 900), 1))
	})
	slices.SortFunc(more.Positions, byNumbers)
	wrong{more, api.ErrLong}.is(t)
	for _, h := range []api.Holding{
		with(more, func(h *api.Holding) { h.Classes[0].Stamp.Validator = -1 }),
		with(more, func(h *api.Holding) { h.Classes[1].Stamp = h.Classes[0].Stamp }),
		with(more, func(h *api.Holding) { h.Classes[1024].Pool = api.Pool{} }),
		with(more, func(h *api.Holding) { h.Classes[0].Pool = pool(most, most) }),
		with(more, func(h *api.Holding) { h.Positions[0].Owner = -1 }),
		with(more, func(h *api.Holding) { h.Positions = nil }),
		of(make([]api.Class, 1025)),
		of(make([]api.Class, 3000), make([]api.Position, 70000)...),
	} {
		checks(t, h, api.ErrLong)
	}
	checks(t, of(make([]api.Class, 1024)), api.ErrRange)
}

// spoil puts a class of these at the place i.
func spoil(h api.Holding, i int, c api.Class) api.Holding {
	return with(h, func(h *api.Holding) { h.Classes[i] = c })
}

// TestCheckStamps: P13.1: each class has a valid stamp, whatever its pool.
func TestCheckStamps(t *testing.T) {
	for _, s := range invalidStamps() {
		if stamp.Check(s) == api.OK {
			t.Fatal(s)
		}
		wrong{alone(s, 10, 10), api.ErrRange}.is(t)
		for i := range rich().Classes {
			for _, p := range []api.Pool{rich().Classes[i].Pool, {}, pool(5, 4), pool(0, 1), pool(m, m)} {
				checks(t, spoil(rich(), i, api.Class{Stamp: s, Pool: p}), api.ErrRange)
			}
		}
	}
}

// TestCheckOrder: P13.1: each stamp is greater than the one before it.
func TestCheckOrder(t *testing.T) {
	h := rich()
	for i := 1; i < len(h.Classes); i++ {
		for j := range i {
			for _, p := range []api.Pool{h.Classes[i].Pool, {}, pool(5, 4), pool(0, 1), pool(m, m)} {
				wrong := spoil(h, i, api.Class{Stamp: h.Classes[j].Stamp, Pool: p})
				checks(t, wrong, api.ErrOrder)
			}
			checks(t, with(h, func(h *api.Holding) { h.Classes[i], h.Classes[j] = h.Classes[j], h.Classes[i] }), api.ErrOrder)
		}
	}
	for _, x := range [][2]api.Stamp{
		{bare(2, 5), bare(2, 5)}, {hopped(2, 5, 1, 3), hopped(2, 5, 1, 3)}, {bare(3, 5), bare(2, 6)}, {bare(2, 6), bare(2, 5)}, {bare(2, 6), hopped(2, 5, 1, 3)},
		{hopped(2, 5, 0, 3), bare(2, 5)}, {hopped(2, 5, 1, 3), hopped(2, 5, 0, 4)}, {hopped(2, 5, 1, 4), hopped(2, 5, 1, 3)}, {bare(31, 1), bare(0, top)},
	} {
		one, other := part(1, x[0], 5), part(1, x[1], 5)
		wrong{of(classes(class(x[0], 5, 5), class(x[1], 5, 5)), other, one), api.ErrOrder}.is(t)
		if x[0] != x[1] {
			checks(t, of(classes(class(x[1], 5, 5), class(x[0], 5, 5)), other, one), api.OK)
		}
	}
}

// TestCheckPools: P13.1: each pool is valid and not empty.
func TestCheckPools(t *testing.T) {
	for err, l := range invalidPools() {
		for _, p := range l {
			wrong{alone(bare(2, 5), p.Tokens, p.Shares), err}.is(t)
			wrong{of(classes(api.Class{Stamp: bare(2, 5), Pool: p})), err}.is(t)
			for i, c := range rich().Classes {
				checks(t, spoil(rich(), i, api.Class{Stamp: c.Stamp, Pool: p}), err)
			}
		}
	}
}

// TestCheckFirstClass: P13.1: of two classes that are wrong the first one counts, and what is wrong with a class is ahead of all tokens and of all positions.
func TestCheckFirstClass(t *testing.T) {
	bad := func(i int) map[api.Errno]func(h *api.Holding) {
		return map[api.Errno]func(h *api.Holding){
			api.ErrRange: func(h *api.Holding) { h.Classes[i].Stamp.Since = 0 },
			api.ErrOrder: func(h *api.Holding) { h.Classes[i].Pool = pool(2, 1) },
			api.ErrOver:  func(h *api.Holding) { h.Classes[i].Pool = pool(most+1, m) },
			api.ErrState: func(h *api.Holding) { h.Classes[i].Pool = api.Pool{} },
		}
	}
	for first, one := range bad(1) {
		for _, other := range bad(3) {
			checks(t, with(rich(), func(h *api.Holding) { other(h); one(h) }), first)
		}
		checks(t, with(rich(), func(h *api.Holding) {
			one(h)
			h.Classes[0].Pool, h.Classes[4].Pool = pool(most, most), pool(most, most)
		}), first)
		checks(t, with(rich(), func(h *api.Holding) { one(h); h.Positions[0].Owner = -1 }), first)
		checks(t, with(rich(), func(h *api.Holding) { one(h); h.Positions = nil }), first)
	}
}

// TestCheckSupply: P13.1: all tokens are at most 2^62, though their sum may pass 2^64; that is ahead of all positions.
func TestCheckSupply(t *testing.T) {
	for _, x := range []struct {
		l   []uint64
		err api.Errno
	}{
		{[]uint64{most}, api.OK}, {[]uint64{most - 1, 1}, api.OK}, {[]uint64{1, most - 1}, api.OK}, {[]uint64{most - 2, 1, 1}, api.OK}, {[]uint64{most / 4, most / 4, most / 4, most / 4}, api.OK},
		{[]uint64{most, 1}, api.ErrOver}, {[]uint64{1, most}, api.ErrOver}, {[]uint64{most - 1, 1, 1}, api.ErrOver}, {[]uint64{1, 1, most - 1}, api.ErrOver}, {[]uint64{most/2 + 1, most / 2}, api.ErrOver}, {[]uint64{most, most}, api.ErrOver},
		{[]uint64{most, most, most}, api.ErrOver}, {[]uint64{most, most, most, most}, api.ErrOver}, {[]uint64{most, most, most, most, 1}, api.ErrOver}, {[]uint64{most, most, most, most, most}, api.ErrOver}, {[]uint64{most, most, most, most - 1, 5}, api.ErrOver},
	} {
		var h api.Holding
		for i, n := range x.l {
			s := bare(i, 5)
			h.Classes = append(h.Classes, class(s, n, n))
			h.Positions = append(h.Positions, part(i, s, n))
		}
		checks(t, h, x.err)
		if x.err != api.OK {
			wrong{h, x.err}.is(t)
			checks(t, with(h, func(h *api.Holding) { h.Positions[0].Owner = 64 }), api.ErrOver)
			checks(t, with(h, func(h *api.Holding) { h.Positions = nil }), api.ErrOver)
			last := len(h.Classes) - 1
			checks(t, with(h, func(h *api.Holding) { h.Classes[last].Stamp = h.Classes[0].Stamp }), api.ErrOrder)
			checks(t, with(h, func(h *api.Holding) { h.Classes[last].Pool = api.Pool{} }), api.ErrState)
		}
	}
	h := wide(1024)
	for i := range h.Classes {
		h.Classes[i].Pool = pool(most, most)
	}
	checks(t, h, api.ErrOver)
}

// TestCheckPositions: P13.1, written out: each rule for positions, alone.
func TestCheckPositions(t *testing.T) {
	a, b, none := bare(2, 5), bare(3, 6), bare(2, 6)
	l := classes(class(a, 20, 20), class(b, 7, 7))
	for _, x := range []struct {
		p   []api.Position
		err api.Errno
	}{
		{[]api.Position{part(0, a, 20), part(0, b, 7)}, api.OK},
		{[]api.Position{part(63, a, 20), part(63, b, 7)}, api.OK},
		{[]api.Position{part(-1, a, 20), part(0, b, 7)}, api.ErrRange},
		{[]api.Position{part(0, b, 7), part(64, a, 20)}, api.ErrRange},
		{[]api.Position{part(0, a, 19), part(0, a, 1), part(0, b, 7)}, api.ErrOrder},
		{[]api.Position{part(0, a, 20), part(0, a, 20), part(0, b, 7)}, api.ErrOrder},
		{[]api.Position{part(0, b, 7), part(0, a, 20)}, api.ErrOrder},
		{[]api.Position{part(1, a, 20), part(0, b, 7)}, api.ErrOrder},
		{[]api.Position{part(0, a, 20), part(1, b, 7), part(0, b, 7)}, api.ErrOrder},
		{[]api.Position{part(0, a, 20), part(0, b, 7), part(1, a, 0)}, api.ErrDust},
		{[]api.Position{part(0, a, 0), part(0, b, 7), part(1, a, 20)}, api.ErrDust},
		{[]api.Position{part(0, a, 20), part(0, none, 1), part(0, b, 7)}, api.ErrUnknown},
		{[]api.Position{part(0, a, 20), part(0, b, 7), part(1, bare(9, 9), 1)}, api.ErrUnknown},
		{[]api.Position{part(0, api.Stamp{}, 5), part(0, a, 20), part(0, b, 7)}, api.ErrUnknown},
		{[]api.Position{part(0, hopped(2, 5, 1, 3), 20), part(0, b, 7)}, api.ErrUnknown},
		{[]api.Position{part(0, a, 20)}, api.ErrState},
		{[]api.Position{part(0, b, 7)}, api.ErrState},
		{nil, api.ErrState},
		{[]api.Position{part(0, a, 19), part(0, b, 7)}, api.ErrState},
		{[]api.Position{part(0, a, 21), part(0, b, 7)}, api.ErrState},
		{[]api.Position{part(0, a, 20), part(0, b, 6)}, api.ErrState},
		{[]api.Position{part(0, a, 20), part(0, b, 8)}, api.ErrState},
		{[]api.Position{part(0, a, 7), part(0, b, 20)}, api.ErrState},
		{[]api.Position{part(0, a, 13), part(0, b, 7), part(1, a, 8)}, api.ErrState},
		{[]api.Position{part(0, a, 13), part(0, b, 7), part(1, a, 7)}, api.OK},
		{[]api.Position{part(0, a, 13), part(0, b, 7), part(1, a, 6)}, api.ErrState},
	} {
		checks(t, of(l, x.p...), x.err)
		if x.err != api.OK {
			wrong{of(l, x.p...), x.err}.is(t)
		}
	}
	checks(t, of(nil, part(0, a, 1)), api.ErrUnknown)
	checks(t, of(nil, part(0, a, 0)), api.ErrDust)
	checks(t, of(nil, part(64, a, 0)), api.ErrRange)
	for _, owner := range strangers() {
		checks(t, with(begun(), func(h *api.Holding) { h.Positions[0].Owner = owner }), api.ErrRange)
		checks(t, with(begun(), func(h *api.Holding) { h.Positions[2].Owner = owner }), api.ErrRange)
	}
}

// TestCheckFirstPosition: P13.1: of several things that are wrong with positions the first one counts: position by position, and the sums at the end.
func TestCheckFirstPosition(t *testing.T) {
	a, b, none := bare(2, 5), bare(3, 6), bare(2, 6)
	l := classes(class(a, 20, 20), class(b, 7, 7))
	for _, x := range []struct {
		p   []api.Position
		err api.Errno
	}{
		{[]api.Position{part(0, a, 20), part(-1, a, 0)}, api.ErrRange},
		{[]api.Position{part(0, a, 20), part(-1, none, 7)}, api.ErrRange},
		{[]api.Position{part(64, none, 0), part(64, none, 0)}, api.ErrRange},
		{[]api.Position{part(1, a, 20), part(0, b, 0)}, api.ErrOrder},
		{[]api.Position{part(1, a, 20), part(1, a, 0)}, api.ErrOrder},
		{[]api.Position{part(1, a, 20), part(0, none, 7)}, api.ErrOrder},
		{[]api.Position{part(1, a, 20), part(1, api.Stamp{}, 7)}, api.ErrOrder},
		{[]api.Position{part(1, a, 20), part(1, none, 0)}, api.ErrDust},
		{[]api.Position{part(0, a, 0), part(64, b, 7)}, api.ErrDust},
		{[]api.Position{part(0, a, 0), part(0, a, 7)}, api.ErrDust},
		{[]api.Position{part(0, a, 0), part(0, none, 7)}, api.ErrDust},
		{[]api.Position{part(0, none, 1), part(64, b, 7)}, api.ErrUnknown},
		{[]api.Position{part(0, none, 1), part(0, a, 7)}, api.ErrUnknown},
		{[]api.Position{part(0, none, 1), part(0, b, 0)}, api.ErrUnknown},
		{[]api.Position{part(0, a, 99), part(64, b, 7)}, api.ErrRange},
		{[]api.Position{part(0, a, 99), part(0, a, 1)}, api.ErrOrder},
		{[]api.Position{part(0, a, 99), part(0, b, 0)}, api.ErrDust},
		{[]api.Position{part(0, a, 99), part(0, none, 1)}, api.ErrUnknown},
		{[]api.Position{part(0, a, 99), part(0, b, 7), part(1, none, 1)}, api.ErrUnknown},
	} {
		checks(t, of(l, x.p...), x.err)
	}
}

// TestCheckSums: P13.1: the shares of a class, at and around 2^64.
func TestCheckSums(t *testing.T) {
	a, b := bare(2, 5), bare(3, 6)
	for _, x := range []struct {
		shares uint64
		parts  []uint64
		err    api.Errno
	}{
		{m, []uint64{m}, api.OK}, {m, []uint64{m - 1, 1}, api.OK}, {m, []uint64{1, m - 1}, api.OK}, {m, []uint64{1 << 63, 1<<63 - 1}, api.OK},
		{m, []uint64{m, 1}, api.ErrState}, {m, []uint64{m, m}, api.ErrState}, {m, []uint64{1 << 63, 1 << 63}, api.ErrState}, {m, []uint64{m - 1}, api.ErrState}, {m, []uint64{1<<63 - 1, 1<<63 - 1}, api.ErrState},
		{1, []uint64{m, 2}, api.ErrState}, {1, []uint64{2, m}, api.ErrState}, {1, []uint64{1, 1 << 63, 1 << 63}, api.ErrState}, {1, []uint64{1 << 63, 1 << 63, 1}, api.ErrState}, {5, []uint64{m, m, 7}, api.ErrState}, {m, []uint64{m, 1, m}, api.ErrState},
		{5, []uint64{2, 3}, api.OK}, {5, []uint64{2, 4}, api.ErrState}, {5, []uint64{2, 2}, api.ErrState}, {5, []uint64{6}, api.ErrState}, {5, []uint64{4}, api.ErrState},
	} {
		for _, both := range []bool{false, true} {
			h := of(classes(class(a, 1, x.shares)))
			if both {
				h.Classes = append(h.Classes, class(b, 2, 9))
			}
			for i, n := range x.parts {
				h.Positions = append(h.Positions, part(i, a, n))
				if both && i == 0 {
					h.Positions = append(h.Positions, part(i, b, 9))
				}
			}
			checks(t, h, x.err)
			if x.err != api.OK {
				wrong{h, x.err}.is(t)
			}
		}
	}
	// All shares together are as many as they have to be, but not class by class.
	checks(t, of(classes(class(a, 5, 5), class(b, 5, 5)), part(0, a, 6), part(0, b, 4)), api.ErrState)
	checks(t, of(classes(class(a, 5, 5), class(b, 5, 5)), part(0, a, 4), part(0, b, 6)), api.ErrState)
}

// spoilt changes one thing in h, at random; h may be valid still.
func spoilt(r *rand.Rand, h api.Holding) api.Holding {
	h = copied(h)
	c, p := len(h.Classes), len(h.Positions)
	if c == 0 || p == 0 {
		return of(classes(class(history(r), amount(r, m), amount(r, m))), part(r.IntN(66)-1, history(r), amount(r, m)))
	}
	i, j := r.IntN(c), r.IntN(p)
	switch r.IntN(16) {
	case 0:
		h.Classes[i].Stamp = history(r)
	case 1:
		h.Positions[j].Stamp = history(r)
	case 2:
		h.Classes[i].Stamp = invalidStamps()[r.IntN(len(invalidStamps()))]
	case 3:
		h.Positions[j].Stamp = invalidStamps()[r.IntN(len(invalidStamps()))]
	case 4:
		h.Classes[i].Pool = pool(r.Uint64N(3), r.Uint64N(3))
	case 5:
		h.Classes[i].Pool.Tokens = amount(r, m)
	case 6:
		h.Classes[i].Pool.Shares += r.Uint64N(3) - 1
	case 7:
		h.Positions[j].Shares += r.Uint64N(3) - 1
	case 8:
		h.Positions[j].Shares = 0
	case 9:
		h.Positions[j].Owner = r.IntN(8) - 1
	case 10:
		h.Positions[j].Owner = strangers()[r.IntN(len(strangers()))]
	case 11:
		k := r.IntN(c)
		h.Classes[i], h.Classes[k] = h.Classes[k], h.Classes[i]
	case 12:
		k := r.IntN(p)
		h.Positions[j], h.Positions[k] = h.Positions[k], h.Positions[j]
	case 13:
		h.Classes = slices.Delete(h.Classes, i, i+1)
	case 14:
		h.Positions = slices.Delete(h.Positions, j, j+1)
	case 15:
		h.Classes[i].Pool = pool(most-r.Uint64N(2), most)
	}
	return h
}

// TestCheckDrawn: P13.1: drawn holdings in which up to four things were changed, by the chapter's words.
func TestCheckDrawn(t *testing.T) {
	r := source(2)
	count := map[api.Errno]int{}
	for range 30000 {
		h := drawn(r)
		for range r.IntN(5) {
			h = spoilt(r, h)
		}
		count[checked(h)]++
		check().holds(t, h)
	}
	for _, err := range []api.Errno{api.OK, api.ErrRange, api.ErrOrder, api.ErrOver, api.ErrState, api.ErrDust, api.ErrUnknown} {
		if count[err] < 300 {
			t.Errorf("%v: only %d", err, count[err])
		}
	}
}
