package holding_test

import (
	"math/rand/v2"
	"slices"
	"testing"

	"distraint/api"
)

// TestJoinEmpty: P13.2: the first position of all: as many shares as tokens.
func TestJoinEmpty(t *testing.T) {
	for _, owner := range []int{0, 1, 62, 63} {
		for _, s := range []api.Stamp{bare(0, 1), bare(31, top), hopped(31, 1, 0, 1), hopped(2, 5, 1, 3)} {
			for _, a := range []uint64{1, 2, 1 << 61, most - 1, most} {
				want := told{holding: of(classes(class(s, a, a)), part(owner, s, a)), n: a}
				join(owner, s, a).is(t, api.Holding{}, want)
				join(owner, s, a).is(t, of([]api.Class{}), want)
			}
		}
	}
}

// TestJoinClass: P13.2: into a class that is there, by owners who have a position in it, in another one, and none.
func TestJoinClass(t *testing.T) {
	a, b := bare(2, 5), bare(3, 6)
	l := classes(class(a, 9, 12), class(b, 7, 7))
	h := of(l, part(1, a, 5), part(3, a, 7), part(3, b, 6), part(5, b, 1))
	after := func(positions ...api.Position) told {
		return told{holding: of(classes(class(a, 12, 16), class(b, 7, 7)), positions...), n: 4}
	}
	join(1, a, 3).is(t, h, after(part(1, a, 9), part(3, a, 7), part(3, b, 6), part(5, b, 1)))
	join(3, a, 3).is(t, h, after(part(1, a, 5), part(3, a, 11), part(3, b, 6), part(5, b, 1)))
	join(5, a, 3).is(t, h, after(part(1, a, 5), part(3, a, 7), part(3, b, 6), part(5, a, 4), part(5, b, 1)))
	join(0, a, 3).is(t, h, after(part(0, a, 4), part(1, a, 5), part(3, a, 7), part(3, b, 6), part(5, b, 1)))
	join(2, a, 3).is(t, h, after(part(1, a, 5), part(2, a, 4), part(3, a, 7), part(3, b, 6), part(5, b, 1)))
	join(63, a, 3).is(t, h, after(part(1, a, 5), part(3, a, 7), part(3, b, 6), part(5, b, 1), part(63, a, 4)))
	join(1, b, 2).is(t, h, told{holding: of(classes(class(a, 9, 12), class(b, 9, 9)), part(1, a, 5), part(1, b, 2), part(3, a, 7), part(3, b, 6), part(5, b, 1)), n: 2})
	// The shares that a deposit comes to are rounded down.
	join(1, a, 1).is(t, h, told{holding: of(classes(class(a, 10, 13), class(b, 7, 7)), part(1, a, 6), part(3, a, 7), part(3, b, 6), part(5, b, 1)), n: 1})
	join(1, a, 2).is(t, h, told{holding: of(classes(class(a, 11, 14), class(b, 7, 7)), part(1, a, 7), part(3, a, 7), part(3, b, 6), part(5, b, 1)), n: 2})
}

// TestJoinNewClass: P13.2: into a class that is not there: first, between others, and last.
func TestJoinNewClass(t *testing.T) {
	for _, s := range []api.Stamp{
		bare(0, 1), bare(1, 3), bare(1, 5), bare(1, 9), hopped(1, 9, 0, 1), hopped(1, 9, 0, 3), hopped(1, 9, 2, 2), hopped(1, 9, 2, 4), hopped(2, 7, 1, 5), bare(2, 7), bare(30, top), bare(31, top-1), hopped(31, top, 0, 1),
	} {
		h := rich()
		at := slices.IndexFunc(h.Classes, func(c api.Class) bool { return byNumbers(part(0, c.Stamp, 0), part(0, s, 0)) > 0 })
		if at < 0 {
			at = len(h.Classes)
		}
		l := slices.Insert(slices.Clone(h.Classes), at, class(s, 40, 40))
		for _, owner := range []int{0, 1, 3, 5, 62, 63} {
			p := append(slices.Clone(h.Positions), part(owner, s, 40))
			slices.SortFunc(p, byNumbers)
			join(owner, s, 40).is(t, h, told{holding: of(l, p...), n: 40})
		}
	}
}

// TestJoinWrong: P13.2: who is no account and what is no stamp, ahead of all that follows.
func TestJoinWrong(t *testing.T) {
	for _, h := range []api.Holding{{}, begun(), rich(), wide(1024), alone(bare(2, 5), most, most)} {
		for _, a := range []uint64{0, 1, most, m} {
			for _, owner := range strangers() {
				join(owner, bare(2, 5), a).is(t, h, refused(api.ErrRange))
				join(owner, bare(2, 0), a).is(t, h, refused(api.ErrRange))
			}
			for _, s := range invalidStamps() {
				join(0, s, a).is(t, h, refused(api.ErrRange))
			}
		}
	}
}

// TestJoinFull: P13.2: with 1,024 classes there is no other one, whatever the amount; those that are there have room.
func TestJoinFull(t *testing.T) {
	h, other := wide(1024), bare(31, 900)
	for _, a := range []uint64{0, 1, most, m} {
		for _, s := range []api.Stamp{other, hopped(0, 1, 1, 1), hopped(15, 7, 1, 1)} {
			join(0, s, a).is(t, h, refused(api.ErrFull))
		}
	}
	join(0, other, 0).is(t, wide(1023), refused(api.ErrDust))
	join(0, other, 5).is(t, wide(1023), told{holding: sorted(with(wide(1023), func(h *api.Holding) {
		h.Classes = append(h.Classes, class(other, 5, 5))
		h.Positions = append(h.Positions, part(0, other, 5))
	})), n: 5})
	for _, i := range []int{0, 1, 511, 512, 1022, 1023} {
		s := h.Classes[i].Stamp
		for _, owner := range []int{0, 1, i % 64, 63} {
			join(owner, s, 5).is(t, h, told{holding: sorted(with(h, func(h *api.Holding) {
				h.Classes[i].Pool = pool(6, 6)
				h.Positions = append(h.Positions, part(owner, s, 5))
			})), n: 5})
		}
		join(0, s, 0).is(t, h, refused(api.ErrDust))
	}
}

// TestJoinRefusals: P13.2: no tokens at all; more than a pool may have, or all pools together, or than shares can be.
func TestJoinRefusals(t *testing.T) {
	a, b := bare(2, 5), bare(3, 6)
	for _, h := range []api.Holding{{}, begun(), rich(), alone(a, most, most), alone(a, 1, m)} {
		join(0, a, 0).is(t, h, refused(api.ErrDust))
		join(5, b, 0).is(t, h, refused(api.ErrDust))
	}
	for _, x := range []struct {
		h api.Holding
		s api.Stamp
		n uint64
		e api.Errno
	}{
		{api.Holding{}, a, most, api.OK}, {api.Holding{}, a, most + 1, api.ErrOver}, {api.Holding{}, a, 1 << 63, api.ErrOver}, {api.Holding{}, a, m, api.ErrOver},
		{alone(a, most-5, most-5), a, 5, api.OK}, {alone(a, most-5, most-5), a, 6, api.ErrOver}, {alone(a, most-5, most-5), a, m, api.ErrOver},
		{alone(a, most-5, most-5), b, 5, api.OK}, {alone(a, most-5, most-5), b, 6, api.ErrOver}, {alone(a, most-5, most-5), b, most, api.ErrOver}, {alone(a, most-5, most-5), b, most + 1, api.ErrOver}, {alone(a, most-5, most-5), b, m, api.ErrOver}, {alone(a, most-5, most-5), b, m - most + 6, api.ErrOver},
		{alone(a, most, most), a, 1, api.ErrOver}, {alone(a, most, most), b, 1, api.ErrOver}, {alone(a, most, most), b, most, api.ErrOver}, {alone(a, most, most), b, m, api.ErrOver}, {alone(a, most, most), b, m - most + 1, api.ErrOver},
		{begun(), a, most - 27, api.OK}, {begun(), a, most - 26, api.ErrOver}, {begun(), a, most - 20, api.ErrOver}, {begun(), a, most - 19, api.ErrOver},
		{begun(), b, most - 27, api.OK}, {begun(), b, most - 26, api.ErrOver}, {begun(), b, most - 7, api.ErrOver}, {begun(), b, most - 6, api.ErrOver},
		{begun(), bare(0, 1), most - 27, api.OK}, {begun(), bare(9, 9), most - 26, api.ErrOver}, {begun(), bare(9, 9), most, api.ErrOver}, {begun(), bare(9, 9), most + 1, api.ErrOver},
		{alone(a, 1, 1<<63), a, 1, api.ErrOver}, {alone(a, 1, 1<<63-1), a, 1, api.OK}, {alone(a, 1, 1<<63-1), a, 2, api.ErrOver}, {alone(a, 1, m), a, 1, api.ErrOver}, {alone(a, 1, m), b, 1, api.OK}, {alone(a, 10, m), a, 1, api.ErrOver}, {alone(a, 1, 1<<63), a, 2, api.ErrOver},
	} {
		for _, owner := range []int{0, 1, 5, 63} {
			c := join(owner, x.s, x.n)
			c.holds(t, x.h)
			if err := c.ask(x.h).err; err != x.e {
				t.Errorf("%s of %v: %v; want %v", c.name, x.h, err, x.e)
			}
		}
	}
}

// TestLeave: P13.3: some shares of a position, all of them, and all of a class.
func TestLeave(t *testing.T) {
	a, b := bare(2, 5), bare(3, 6)
	h := of(classes(class(a, 18, 20), class(b, 7, 7)), part(0, a, 10), part(1, a, 10), part(1, b, 7))
	for _, x := range []struct {
		owner int
		s     api.Stamp
		x     uint64
		want  told
	}{
		{1, a, 2, told{holding: of(classes(class(a, 17, 18), class(b, 7, 7)), part(0, a, 10), part(1, a, 8), part(1, b, 7)), n: 1}},
		{1, a, 9, told{holding: of(classes(class(a, 10, 11), class(b, 7, 7)), part(0, a, 10), part(1, a, 1), part(1, b, 7)), n: 8}},
		{1, a, 10, told{holding: of(classes(class(a, 9, 10), class(b, 7, 7)), part(0, a, 10), part(1, b, 7)), n: 9}},
		{0, a, 3, told{holding: of(classes(class(a, 16, 17), class(b, 7, 7)), part(0, a, 7), part(1, a, 10), part(1, b, 7)), n: 2}},
		{0, a, 10, told{holding: of(classes(class(a, 9, 10), class(b, 7, 7)), part(1, a, 10), part(1, b, 7)), n: 9}},
		{1, b, 6, told{holding: of(classes(class(a, 18, 20), class(b, 1, 1)), part(0, a, 10), part(1, a, 10), part(1, b, 1)), n: 6}},
		{1, b, 7, told{holding: of(classes(class(a, 18, 20)), part(0, a, 10), part(1, a, 10)), n: 7}},
		{1, a, 1, refused(api.ErrDust)}, {1, a, 0, refused(api.ErrDust)}, {1, b, 0, refused(api.ErrDust)},
		{1, a, 11, refused(api.ErrPoor)}, {1, a, 20, refused(api.ErrPoor)}, {1, a, 21, refused(api.ErrPoor)}, {1, a, m, refused(api.ErrPoor)}, {1, b, 8, refused(api.ErrPoor)}, {0, a, 11, refused(api.ErrPoor)},
		{0, b, 1, refused(api.ErrUnknown)}, {0, b, 0, refused(api.ErrUnknown)}, {0, b, 8, refused(api.ErrUnknown)}, {2, a, 1, refused(api.ErrUnknown)}, {1, bare(3, 5), 1, refused(api.ErrUnknown)}, {1, bare(9, 9), 1, refused(api.ErrUnknown)}, {1, hopped(3, 6, 2, 5), 1, refused(api.ErrUnknown)},
	} {
		leave(x.owner, x.s, x.x).is(t, h, x.want)
	}
	leave(5, a, 1).is(t, alone(a, 1, 1), told{n: 1})
	leave(5, a, most).is(t, alone(a, most, most), told{n: most})
	leave(5, a, m).is(t, alone(a, 1, m), told{n: 1})
	leave(5, a, m-1).is(t, alone(a, 1, m), refused(api.ErrDust))
	leave(5, a, m-1).is(t, alone(a, 2, m), told{holding: alone(a, 1, 1), n: 1})
	leave(0, a, 1).is(t, api.Holding{}, refused(api.ErrUnknown))
}

// TestLeaveWrong: P13.3: who is no account, and what is no stamp, has no position.
func TestLeaveWrong(t *testing.T) {
	for _, h := range []api.Holding{{}, begun(), rich(), wide(1024)} {
		for _, x := range []uint64{0, 1, m} {
			for _, owner := range append(strangers(), 7, 61) {
				leave(owner, bare(2, 5), x).is(t, h, refused(api.ErrUnknown))
			}
			for _, s := range invalidStamps() {
				leave(0, s, x).is(t, h, refused(api.ErrUnknown))
			}
		}
	}
}

// TestLeaveEach: P13.3: each position of each holding: the last one of a class, and one among several.
func TestLeaveEach(t *testing.T) {
	for _, h := range valids() {
		for i, p := range h.Positions {
			if len(h.Positions) > 100 && i%200 > 1 {
				continue
			}
			for _, x := range []uint64{0, 1, p.Shares / 2, p.Shares - 1, p.Shares, p.Shares + 1} {
				leave(p.Owner, p.Stamp, x).holds(t, h)
			}
		}
	}
}

// TestJoinLeaveEach: P13.2 and P13.3: what joined leaves again: in a class of its own as it came, and the holding is as before.
func TestJoinLeaveEach(t *testing.T) {
	for _, h := range valids() {
		if len(h.Classes) == 1024 || supply(h).Cmp(whole(most-9)) > 0 {
			continue
		}
		for _, s := range []api.Stamp{bare(0, 900), bare(2, 700), bare(31, 900)} {
			after := join(7, s, 9).ask(h)
			leave(7, s, 9).is(t, after.holding, told{holding: h, n: 9})
		}
	}
}

// arguments are of Join and Leave, for a holding: its owners and stamps, and others.
func arguments(r *rand.Rand, h api.Holding) (owner int, s api.Stamp, n uint64) {
	owner, s, n = r.IntN(8), history(r), amount(r, most)
	if len(h.Positions) > 0 && r.IntN(4) > 0 {
		p := h.Positions[r.IntN(len(h.Positions))]
		s, n = p.Stamp, amount(r, max(p.Shares, 1))
		if r.IntN(4) > 0 {
			owner = p.Owner
		}
		if r.IntN(4) == 0 {
			n = p.Shares + r.Uint64N(3) - 1
		}
	}
	switch r.IntN(16) {
	case 0:
		n = 0
	case 1:
		n = most - supply(h).Uint64() + r.Uint64N(3) - 1
	case 2:
		n = amount(r, m)
	}
	return owner, s, n
}

// TestChangesDrawn: P13.2 to P13.4: drawn changes of drawn holdings, valid or not, by the chapter's words.
func TestChangesDrawn(t *testing.T) {
	r := source(3)
	count := map[api.Errno]int{}
	for range 6000 {
		h := drawn(r)
		if r.IntN(8) == 0 {
			h = spoilt(r, h)
		}
		for range 3 {
			owner, s, n := arguments(r, h)
			for _, c := range []call{join(owner, s, n), leave(owner, s, n), cut(r.IntN(5), 1+r.IntN(8), r.Uint64N(all+2))} {
				count[c.model(h).err]++
				c.holds(t, h)
			}
		}
	}
	for _, err := range []api.Errno{api.OK, api.ErrDust, api.ErrOver, api.ErrPoor, api.ErrUnknown} {
		if count[err] < 300 {
			t.Errorf("%v: only %d", err, count[err])
		}
	}
}
