package queue_test

import (
	"math"
	"slices"
	"testing"

	"distraint/api"
	"distraint/queue"
)

// spoiler breaks one rule for entries, whatever the entry is; before is the Created of the entry before it.
type spoiler struct {
	name  string
	err   api.Errno
	spoil func(x *api.Entry, before int)
}

// spoilers are in the order in which their errors are told of one entry.
func spoilers() (l []spoiler) {
	for _, owner := range strangers() {
		l = append(l, spoiler{"owner", api.ErrRange, func(x *api.Entry, _ int) { x.Owner = owner }})
	}
	for _, s := range invalidStamps() {
		l = append(l, spoiler{"stamp", api.ErrRange, func(x *api.Entry, _ int) { x.Stamp = s }})
	}
	for _, h := range timeless() {
		l = append(l, spoiler{"height", api.ErrRange, func(x *api.Entry, _ int) { x.Created = h }})
	}
	return append(l,
		spoiler{"ahead of its stamp", api.ErrOrder, func(x *api.Entry, before int) {
			x.Created = max(before, 1)
			x.Stamp = bare(2, x.Created+1)
		}},
		spoiler{"ahead of the entry before it", api.ErrOrder, func(x *api.Entry, before int) {
			x.Created = before - 1
			x.Stamp = bare(2, 1)
		}},
		spoiler{"dust", api.ErrDust, func(x *api.Entry, _ int) { x.Initial = 0 }},
		spoiler{"too much left", api.ErrState, func(x *api.Entry, _ int) { x.Initial, x.Balance = 3, 4 }},
		spoiler{"far too much left", api.ErrState, func(x *api.Entry, _ int) { x.Initial, x.Balance = 1, m }},
	)
}

// before tells the Created of the entry before entry i, or 0 if there is none.
func before(l []api.Entry, i int) int {
	if i == 0 {
		return 0
	}
	return l[i-1].Created
}

// spoiled tells l, in which the rule is broken by the entry i, and whether it can be: there is no height between two that are next to each other.
func (s spoiler) spoiled(l []api.Entry, i int) ([]api.Entry, bool) {
	at := before(l, i)
	if s.name == "ahead of its stamp" && at == top || s.name == "ahead of the entry before it" && at < 2 {
		return nil, false
	}
	return with(l, i, func(x *api.Entry) { s.spoil(x, at) }), true
}

// TestCheckValid: P14.1.
func TestCheckValid(t *testing.T) {
	for _, l := range valids() {
		check(t, l, api.OK, 0)
	}
	r := source(1)
	for range 2000 {
		check(t, drawn(r), api.OK, 0)
	}
}

// TestCheckEach: P14.1: each rule, broken alone by each entry.
func TestCheckEach(t *testing.T) {
	for _, l := range some() {
		for i := range l {
			for _, s := range spoilers() {
				if spoiled, can := s.spoiled(l, i); can {
					check(t, spoiled, s.err, i)
				}
			}
		}
	}
}

// TestCheckOrderOfErrors: P14.1: of two rules that one entry breaks, the first one counts, and of two entries the first one, whatever they break.
func TestCheckOrderOfErrors(t *testing.T) {
	l := spoilers()
	q := list(entry(3, bare(1, 2), 5, 9), entry(0, bare(2, 5), 9, 10), entry(1, bare(2, 5), 9, 20), entry(0, hopped(3, 6, 2, 5), 12, 30), entry(2, bare(7, 3), 40, 1))
	for a := range l {
		for b := range l {
			for i := 1; i < len(q); i++ {
				if a < b && l[a].err != l[b].err {
					// What breaks an order sets the height, so the first rule is broken last.
					both, _ := l[b].spoiled(q, i)
					both, _ = l[a].spoiled(both, i)
					check(t, both, l[a].err, i)
				}
				for j := range i {
					later, _ := l[b].spoiled(q, i)
					if both, can := l[a].spoiled(later, j); can {
						check(t, both, l[a].err, j)
					}
				}
			}
		}
	}
}

// TestCheckHeights: P14.1, written out: around Since, and around the entry before.
func TestCheckHeights(t *testing.T) {
	for _, x := range []struct {
		since, created int
		err            api.Errno
	}{
		{1, 1, api.OK}, {1, 0, api.ErrRange}, {2, 1, api.ErrOrder}, {2, 2, api.OK}, {5, 4, api.ErrOrder}, {5, 5, api.OK}, {5, 6, api.OK}, {5, 0, api.ErrRange},
		{1, top, api.OK}, {top, top, api.OK}, {top, top - 1, api.ErrOrder}, {top, top + 1, api.ErrRange}, {1, top + 1, api.ErrRange}, {1, math.MaxInt, api.ErrRange}, {top, math.MinInt, api.ErrRange},
	} {
		check(t, list(entry(0, bare(2, x.since), x.created, 1)), x.err, 0)
		check(t, list(entry(0, hopped(2, x.since, 0, 1), x.created, 1)), x.err, 0)
	}
	for _, h := range []int{2, 9, top} {
		for i := range 3 {
			l := repeated(4, entry(0, bare(2, 1), h, 1))
			check(t, l, api.OK, 0)
			l[i].Created--
			if i == 0 {
				check(t, l, api.OK, 0)
			} else {
				check(t, l, api.ErrOrder, i)
			}
			l[i].Created += 2
			switch {
			case h == top:
				check(t, l, api.ErrRange, i)
			default:
				check(t, l, api.ErrOrder, i+1)
			}
		}
	}
}

// TestCheckAmounts: P14.1, written out: no Initial, and a Balance up to Initial.
func TestCheckAmounts(t *testing.T) {
	for _, x := range []struct {
		initial, balance uint64
		err              api.Errno
	}{
		{0, 0, api.ErrDust}, {0, 1, api.ErrDust}, {0, m, api.ErrDust}, {1, 0, api.OK}, {1, 1, api.OK}, {1, 2, api.ErrState}, {1, m, api.ErrState}, {9, 8, api.OK}, {9, 9, api.OK}, {9, 10, api.ErrState},
		{most, most, api.OK}, {most, most + 1, api.ErrState}, {most - 1, most, api.ErrState}, {m, most, api.OK}, {m - 1, m, api.ErrState}, {m, 0, api.OK}, {m, most + 1, api.ErrOver}, {m, m, api.ErrOver},
	} {
		check(t, list(cutTo(entry(0, bare(2, 5), 5, x.initial), x.balance)), x.err, 0)
	}
}

// TestCheckSum: P14.1: Balances whose sum is 2^62 and one more, and sums that pass 2^64 once and several times; the fault is at 0, after all that is wrong with entries.
func TestCheckSum(t *testing.T) {
	of := func(balances ...uint64) (l []api.Entry) {
		for i, n := range balances {
			l = append(l, cutTo(entry(i%64, bare(2, 5), 9, m), n))
		}
		return l
	}
	for _, l := range [][]uint64{{most}, {most, 0, 0}, {0, most}, {most - 1, 1}, {1, most - 1}, {most / 2, most / 2}, {most / 4, most / 4, most / 4, most / 4}, {most - 60, 10, 20, 30}} {
		check(t, of(l...), api.OK, 0)
		for i := range l {
			l[i]++
			check(t, of(l...), api.ErrOver, 0)
			check(t, append(of(l...), entry(0, bare(2, 5), 9, 0)), api.ErrDust, len(l))
			check(t, append(of(l...), cutTo(entry(0, bare(2, 5), 9, 1), 2)), api.ErrState, len(l))
			l[i]--
		}
	}
	for _, l := range [][]uint64{{most + 1}, {m}, {m, 1}, {1, m}, {m, 2}, {m, m}, {m, m, m}, {m, most + 1}, {1 << 63, 1 << 63}, {1 << 63, 1 << 63, 1}, {1 << 63, 1<<63 - 1, 1, most}, {most, most, most, most}, {most, most, most, most, most}, {m, 1, m, 1, 5}, {m - 1, 1, 1, 1}} {
		check(t, of(l...), api.ErrOver, 0)
		check(t, append(of(l...), entry(64, bare(2, 5), 9, 1)), api.ErrRange, len(l))
	}
	check(t, slices.Repeat(of(most), 32768), api.ErrOver, 0) // whose sum is 0 but for multiples of 2^64
	check(t, slices.Repeat(of(1<<47), 32768), api.OK, 0)
	check(t, with(slices.Repeat(of(1<<47), 32768), 32767, func(x *api.Entry) { x.Balance++ }), api.ErrOver, 0)
}

// TestCheckLong: P14.1: 32,768 entries and one more, ahead of all that is wrong with entries.
func TestCheckLong(t *testing.T) {
	check(t, long(32768), api.OK, 0)
	check(t, long(32769), api.ErrLong, 32768)
	check(t, long(40000), api.ErrLong, 32768)
	check(t, make([]api.Entry, 32769), api.ErrLong, 32768)
	check(t, make([]api.Entry, 32768), api.ErrRange, 0)
	check(t, repeated(32769, entry(0, bare(2, 5), 9, most)), api.ErrLong, 32768)
	for _, i := range []int{0, 1, 16384, 32766, 32767} {
		check(t, with(long(32768), i, func(x *api.Entry) { x.Initial = 0 }), api.ErrDust, i)
		check(t, with(long(32769), i, func(x *api.Entry) { x.Initial = 0 }), api.ErrLong, 32768)
	}
	check(t, with(long(32769), 32768, func(x *api.Entry) { x.Owner = -1 }), api.ErrLong, 32768)
}

// invalids are lists that are no queues, of each error.
func invalids() (l [][]api.Entry) {
	for i, s := range spoilers() {
		spoiled, _ := s.spoiled(begun(), 1+i%2)
		l = append(l, spoiled)
	}
	return append(l, repeated(2, entry(0, bare(2, 5), 9, most)), repeated(4, entry(0, bare(2, 5), 9, most)), slices.Clone(long(32769)))
}

// TestInvalid: P14.2 to P14.6: each call returns the error of Check first, whatever its other arguments are, and nothing else; Live and Of tell what there is.
func TestInvalid(t *testing.T) {
	found := map[api.Errno]bool{}
	for _, l := range invalids() {
		err, _ := queue.Check(l)
		found[err] = true
		if err == api.OK {
			t.Errorf("%s is a queue", brief(l))
		}
		for _, c := range calls() {
			if c.any {
				c.holds(t, l)
			} else {
				c.is(t, l, refused(err))
			}
		}
	}
	for _, err := range []api.Errno{api.ErrLong, api.ErrRange, api.ErrOrder, api.ErrDust, api.ErrState, api.ErrOver} {
		if !found[err] {
			t.Errorf("none with %v", err)
		}
	}
}

// TestCalls: P14.2 to P14.6: each call on queues at their bounds, by the chapter's words.
func TestCalls(t *testing.T) {
	for _, l := range valids() {
		for _, c := range calls() {
			c.holds(t, l)
		}
	}
}

// TestCallsDrawn: P14.1 to P14.6: each call on drawn queues, some of them spoilt, by the chapter's words.
func TestCallsDrawn(t *testing.T) {
	r := source(2)
	each := spoilers()
	for range 1500 {
		l := drawn(r)
		for range r.IntN(3) {
			if len(l) > 0 {
				l = with(l, r.IntN(len(l)), func(x *api.Entry) { each[r.IntN(len(each))].spoil(x, r.IntN(20)) })
			}
		}
		err, at := checked(l)
		check(t, l, err, at)
		for _, c := range calls() {
			c.holds(t, l)
		}
	}
}
