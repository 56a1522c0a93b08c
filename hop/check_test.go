package hop_test

import (
	"testing"

	"distraint/api"
	"distraint/hop"
)

// spoiler breaks one rule, whatever the hop is; before is the Created of the hop before it.
type spoiler struct {
	name  string
	err   api.Errno
	spoil func(x *api.Hop, before int)
}

// spoilers break each rule for hops, and then their order.
func spoilers() (l []spoiler) {
	for _, n := range strangers() {
		l = append(l, spoiler{"owner", api.ErrRange, func(x *api.Hop, _ int) { x.Owner = n }})
	}
	for _, n := range foreign() {
		l = append(l,
			spoiler{"src", api.ErrRange, func(x *api.Hop, _ int) { x.Src = n }},
			spoiler{"dst", api.ErrRange, func(x *api.Hop, _ int) { x.Dst = n }},
			spoiler{"both", api.ErrRange, func(x *api.Hop, _ int) { x.Src, x.Dst = n, n }})
	}
	for _, h := range timeless() {
		l = append(l, spoiler{"height", api.ErrRange, func(x *api.Hop, _ int) { x.Created = h }})
	}
	return append(l,
		spoiler{"to itself", api.ErrRange, func(x *api.Hop, _ int) { x.Dst = x.Src }},
		spoiler{"from itself", api.ErrRange, func(x *api.Hop, _ int) { x.Src = x.Dst }},
		spoiler{"order", api.ErrOrder, func(x *api.Hop, before int) { x.Created = before - 1 }},
		spoiler{"order", api.ErrOrder, func(x *api.Hop, _ int) { x.Created = 1 }},
	)
}

// before tells the Created of the hop before hop i, or 0 if there is none.
func before(l []api.Hop, i int) int {
	if i == 0 {
		return 0
	}
	return l[i-1].Created
}

// spoiled tells l, in which the rule is broken by the hop i, and whether it can be: no height is ahead of the first one.
func (s spoiler) spoiled(l []api.Hop, i int) ([]api.Hop, bool) {
	at := before(l, i)
	if s.err == api.ErrOrder && at < 2 {
		return nil, false
	}
	return with(l, i, func(x *api.Hop) { s.spoil(x, at) }), true
}

// TestCheckValid: P15.1.
func TestCheckValid(t *testing.T) {
	for _, l := range valids() {
		check(t, l, api.OK, 0)
	}
	r := source(1)
	for range 2000 {
		check(t, drawn(r), api.OK, 0)
	}
}

// TestCheckBounds: P15.1: hops at all bounds, alone and together.
func TestCheckBounds(t *testing.T) {
	for _, h := range []int{1, 2, 1 << 31, top - 1, top} {
		for _, owner := range []int{0, 1, 62, 63} {
			for _, x := range []api.Hop{one(owner, 0, 31, h), one(owner, 31, 0, h), one(owner, 0, 1, h), one(owner, 30, 31, h)} {
				check(t, list(x), api.OK, 0)
				check(t, list(x, x, x), api.OK, 0)
			}
		}
	}
}

// TestCheckEach: P15.1: each rule, broken alone by each hop.
func TestCheckEach(t *testing.T) {
	for _, l := range some() {
		for i := range l {
			for _, s := range spoilers() {
				if spoiled, can := s.spoiled(l, i); can {
					check(t, spoiled, s.err, i)
				}
			}
		}
	}
}

// TestCheckOrderOfErrors: P15.1: a hop that is not valid and out of order is not valid; of two hops the first one counts, whatever they break.
func TestCheckOrderOfErrors(t *testing.T) {
	l := spoilers()
	q := list(one(3, 4, 5, 5), one(0, 1, 2, 9), one(1, 2, 1, 9), one(0, 2, 3, 12), one(2, 5, 6, 40))
	for a := range l {
		for i := 1; i < len(q); i++ {
			late, _ := l[len(l)-1].spoiled(q, i)
			check(t, with(late, i, func(x *api.Hop) { l[a].spoil(x, before(q, i)) }), l[a].err, i)
			for b := range l {
				for j := range i {
					later, _ := l[b].spoiled(q, i)
					if both, can := l[a].spoiled(later, j); can {
						check(t, both, l[a].err, j)
					}
				}
			}
		}
	}
}

// TestCheckOrder: P15.1, written out: Created one less than that of the hop before, equal to it, and one more.
func TestCheckOrder(t *testing.T) {
	for _, h := range []int{2, 9, 1 << 31, top} {
		for i := range 3 {
			l := repeated(4, one(0, 1, 2, h))
			check(t, l, api.OK, 0)
			l[i].Created--
			if i == 0 {
				check(t, l, api.OK, 0)
			} else {
				check(t, l, api.ErrOrder, i)
			}
			l[i].Created += 2
			if h == top {
				check(t, l, api.ErrRange, i)
			} else {
				check(t, l, api.ErrOrder, i+1)
			}
		}
	}
	check(t, list(one(0, 1, 2, 1), one(0, 1, 2, 0)), api.ErrRange, 1)
	check(t, list(one(0, 1, 2, 5), one(0, 1, 2, 9), one(0, 1, 2, 7)), api.ErrOrder, 2)
	check(t, list(one(0, 1, 2, 5), one(0, 1, 2, 9), one(0, 1, 2, 7), one(0, 1, 2, 5)), api.ErrOrder, 2)
	check(t, list(one(0, 1, 2, 9), one(63, 1, 2, 5), one(0, 1, 2, 1)), api.ErrOrder, 1)
	check(t, list(one(0, 1, 2, top), one(0, 1, 2, 1)), api.ErrOrder, 1)
}

// TestCheckLong: P15.1: 4,096 hops and one more, ahead of all that is wrong with hops.
func TestCheckLong(t *testing.T) {
	check(t, long(4096), api.OK, 0)
	check(t, long(4097), api.ErrLong, 4096)
	check(t, long(5000), api.ErrLong, 4096)
	check(t, long(70000), api.ErrLong, 4096)
	check(t, make([]api.Hop, 4097), api.ErrLong, 4096)
	check(t, make([]api.Hop, 4096), api.ErrRange, 0)
	for _, i := range []int{0, 1, 2048, 4094, 4095} {
		check(t, with(long(4096), i, func(x *api.Hop) { x.Dst = x.Src }), api.ErrRange, i)
		check(t, with(long(4097), i, func(x *api.Hop) { x.Dst = x.Src }), api.ErrLong, 4096)
	}
	check(t, with(long(4096), 4095, func(x *api.Hop) { x.Created = 1 }), api.ErrOrder, 4095)
	check(t, with(long(4097), 4096, func(x *api.Hop) { x.Owner = -1 }), api.ErrLong, 4096)
}

// invalids are lists that are none of hops, of each error.
func invalids() (l [][]api.Hop) {
	for i, s := range spoilers() {
		spoiled, can := s.spoiled(begun(), 1+i%5)
		if can {
			l = append(l, spoiled)
		}
	}
	return append(l, make([]api.Hop, 3), list(api.Hop{}), list(one(0, 1, 2, 9), one(0, 1, 2, 8)), repeated(4097, one(0, 1, 2, top)), long(4097))
}

// TestInvalid: P15.1 to P15.4: each call returns the error of Check first, whatever its other arguments are, and nothing else; Next tells nothing, Count and Into what there is.
func TestInvalid(t *testing.T) {
	found := map[api.Errno]bool{}
	for _, l := range invalids() {
		err, _ := hop.Check(l)
		found[err] = true
		if err == api.OK {
			t.Errorf("%s is one of hops", brief(l))
		}
		for _, c := range calls() {
			if c.any {
				c.holds(t, l)
			} else {
				c.is(t, l, refused(err))
			}
		}
		next(10).is(t, l, told{})
	}
	for _, err := range []api.Errno{api.ErrLong, api.ErrRange, api.ErrOrder} {
		if !found[err] {
			t.Errorf("none with %v", err)
		}
	}
}

// TestCalls: P15.1 to P15.4: each call on lists at their bounds, by the chapter's words.
func TestCalls(t *testing.T) {
	for _, l := range valids() {
		for _, c := range calls() {
			c.holds(t, l)
		}
	}
}

// TestCallsDrawn: P15.1 to P15.4: each call on drawn lists, some of them spoilt, by the chapter's words.
func TestCallsDrawn(t *testing.T) {
	r := source(2)
	each := spoilers()
	for range 3000 {
		l := drawn(r)
		for range r.IntN(3) {
			if len(l) > 0 {
				l = with(l, r.IntN(len(l)), func(x *api.Hop) { each[r.IntN(len(each))].spoil(x, r.IntN(20)) })
			}
		}
		err, at := checked(l)
		check(t, l, err, at)
		for _, c := range calls() {
			c.holds(t, l)
		}
	}
}
