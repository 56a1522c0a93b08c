package queue_test

import (
	"math"
	"slices"
	"testing"

	"distraint/api"
)

// limits are numbers that most may be, and ones that it may not be.
func limits() ([]int, []int) {
	return []int{1, 2, 3, 15, 16}, []int{math.MinInt, -16, -1, 0, 17, 32, 32768, math.MaxInt}
}

// TestAddEmpty: P14.2: the first entry of all, at all bounds of an entry.
func TestAddEmpty(t *testing.T) {
	right, _ := limits()
	for _, owner := range []int{0, 1, 62, 63} {
		for _, s := range []api.Stamp{bare(0, 1), bare(31, top), hopped(31, 1, 0, 1), hopped(2, 5, 1, 3)} {
			for _, n := range []uint64{1, 2, most - 1, most} {
				for _, limit := range right {
					for _, created := range []int{s.Since, top} {
						x := entry(owner, s, created, n)
						add(x, limit).is(t, nil, told{queue: list(x)})
						add(x, limit).is(t, []api.Entry{}, told{queue: list(x)})
					}
				}
			}
		}
	}
}

// TestAddBehind: P14.2: an entry comes last, at the height of the last one or later; the others stay as they are.
func TestAddBehind(t *testing.T) {
	for _, l := range some() {
		if sumOf(l).Cmp(whole(most-5)) > 0 || len(l) == 40 {
			continue
		}
		for _, created := range []int{newest(l) - 1, newest(l), newest(l) + 1, top} {
			x := entry(9, hopped(4, 1, 2, 1), created, 5)
			switch {
			case created < 1, created > top:
				add(x, 1).is(t, l, refused(api.ErrRange))
			case created < newest(l):
				add(x, 1).is(t, l, refused(api.ErrOrder))
			default:
				add(x, 1).is(t, l, told{queue: slices.Concat(l, list(x))})
			}
		}
	}
}

// TestAddLimit: P14.2: most from 1 to 16, ahead of all that is wrong with the entry.
func TestAddLimit(t *testing.T) {
	right, others := limits()
	x := entry(5, bare(2, 5), 12, 1)
	for _, limit := range right {
		add(x, limit).is(t, begun(), told{queue: append(begun(), x)})
		add(entry(5, bare(2, 5), 12, 0), limit).is(t, begun(), refused(api.ErrDust))
	}
	for _, limit := range others {
		for _, l := range [][]api.Entry{nil, begun(), long(32768)} {
			add(x, limit).is(t, l, refused(api.ErrRange))
			for _, e := range []api.Entry{{}, cutTo(x, 0), cutTo(x, 2), entry(0, bare(2, 5), 1, 1), entry(0, bare(2, 5), 12, 0), entry(0, bare(2, 5), 12, most)} {
				add(e, limit).is(t, l, refused(api.ErrRange))
			}
		}
	}
}

// TestAddWrong: P14.2: an entry that breaks each rule as the last one; ahead of a Balance that is not Initial, of the limit on live entries, of a queue that is full, and of a sum that is too great.
func TestAddWrong(t *testing.T) {
	full := repeated(32768, entry(0, bare(2, 5), 12, most>>15)) // has the whole supply
	for _, s := range spoilers() {
		for _, l := range [][]api.Entry{begun(), full} {
			for _, x := range []api.Entry{entry(5, bare(7, 5), 12, 9), entry(0, bare(2, 5), 12, 9), cutTo(entry(0, bare(2, 5), 12, 9), 8), entry(0, bare(2, 5), 12, most)} {
				s.spoil(&x, 12)
				add(x, 1).is(t, l, refused(s.err))
				add(x, 16).is(t, l, refused(s.err))
			}
		}
	}
	for _, s := range spoilers() {
		x := entry(5, bare(7, 1), 1, 9)
		if s.spoil(&x, 0); s.name == "ahead of the entry before it" {
			continue // nothing is before it
		}
		add(x, 1).is(t, nil, refused(s.err))
	}
	check(t, full, api.OK, 0)
}

// TestAddCut: P14.2: a Balance that is less than Initial, ahead of what follows; one that is greater is wrong with any entry.
func TestAddCut(t *testing.T) {
	full := repeated(32768, entry(0, bare(2, 5), 12, most>>15))
	for _, l := range [][]api.Entry{nil, begun(), full} {
		for _, x := range []api.Entry{entry(5, bare(7, 5), 12, 9), entry(0, bare(2, 5), 12, 9)} {
			for _, n := range []uint64{0, 1, 8, 10, m} {
				add(cutTo(x, n), 1).is(t, l, refused(api.ErrState))
			}
		}
		for _, n := range []uint64{0, 1, most - 1, most, most + 1, m - 1} {
			add(cutTo(entry(0, bare(2, 5), 12, m), n), 1).is(t, l, refused(api.ErrState))
		}
	}
}

// TestAddLive: P14.2: as many live entries of its owner and its Validator as there may be, and one less. Other owners, other validators, and validators that were backed before do not count; entries of which nothing is left do.
func TestAddLive(t *testing.T) {
	s := bare(2, 5)
	right, _ := limits()
	for _, limit := range right {
		l := list(entry(1, s, 5, 1), entry(0, hopped(3, 5, 2, 4), 5, 1), entry(0, bare(1, 5), 5, 1), entry(2, bare(0, 1), 5, 1))
		for i := range limit {
			l = append(l, entry(1, s, 9, 1), entry(0, hopped(3, 6, 2, 5), 9, 1))
			for _, x := range []api.Entry{entry(0, s, 9, 1), entry(0, hopped(2, 7, 3, 6), 10, 5)} {
				add(x, limit).is(t, l, told{queue: slices.Concat(l, list(x))})
				if i > 0 {
					add(x, i).is(t, l, refused(api.ErrCap))
				}
			}
			x := entry(0, []api.Stamp{s, hopped(2, 7, 3, 6), bare(2, 1)}[i%3], 9, 8)
			l = append(l, cutTo(x, uint64(8*(i%2))))
		}
		for _, x := range []api.Entry{entry(0, s, 9, 1), entry(0, hopped(2, 7, 3, 6), top, 1), entry(0, s, 9, most)} {
			add(x, limit).is(t, l, refused(api.ErrCap))
			if limit > 1 {
				add(x, limit-1).is(t, l, refused(api.ErrCap))
			}
			if limit < 16 {
				x.Initial, x.Balance = 1, 1
				add(x, limit+1).is(t, l, told{queue: slices.Concat(l, list(x))})
			}
		}
		others := list(entry(2, s, 9, 1), entry(0, bare(31, 5), 9, 1), entry(63, hopped(1, 9, 2, 9), 9, 1))
		for _, x := range others {
			add(x, 1).is(t, l, told{queue: slices.Concat(l, list(x))})
		}
	}
	many := repeated(40, entry(0, s, 9, 1))
	add(entry(0, s, 9, 1), 16).is(t, many, refused(api.ErrCap))
	add(entry(1, s, 9, 1), 1).is(t, many, told{queue: slices.Concat(many, list(entry(1, s, 9, 1)))})
}

// TestAddFull: P14.2: there are 32,768 entries already, behind the limit on live ones and ahead of the sum; one less leaves room.
func TestAddFull(t *testing.T) {
	l := long(32768)
	x := entry(0, bare(0, 1), top, 1)
	add(x, 16).is(t, l, refused(api.ErrCap))
	l[0].Owner = 1
	add(x, 16).is(t, l, refused(api.ErrFull))
	add(x, 15).is(t, l, refused(api.ErrCap))
	add(entry(0, bare(0, 1), top, most), 16).is(t, l, refused(api.ErrFull))
	add(entry(0, bare(0, 1), top, most), 15).is(t, l, refused(api.ErrCap))
	add(x, 16).is(t, l[1:], told{queue: slices.Concat(l[1:], list(x))})
	add(entry(0, bare(0, 1), top, most), 16).is(t, l[1:], refused(api.ErrOver))
	one := repeated(32768, entry(0, bare(2, 5), 12, 1))
	add(entry(0, bare(3, 5), 12, 1), 1).is(t, one, refused(api.ErrFull))
	add(entry(1, bare(2, 5), 12, 1), 1).is(t, one, refused(api.ErrFull))
	add(entry(1, bare(2, 5), 12, 1), 1).is(t, one[:32767], told{queue: slices.Concat(one[:32767], list(entry(1, bare(2, 5), 12, 1)))})
}

// TestAddOver: P14.2: Balances that come to 2^62 and one more, and to more than 2^64; what was cut from entries is not counted.
func TestAddOver(t *testing.T) {
	s := bare(2, 5)
	for _, x := range []struct {
		l []api.Entry
		n uint64
		e api.Errno
	}{
		{nil, most, api.OK}, {nil, most + 1, api.ErrOver}, {nil, m, api.ErrOver},
		{begun(), most - 60, api.OK}, {begun(), most - 59, api.ErrOver}, {begun(), m - 60, api.ErrOver}, {begun(), m - 59, api.ErrOver}, {begun(), m - 58, api.ErrOver}, {begun(), m, api.ErrOver},
		{list(entry(0, s, 5, most)), 1, api.ErrOver}, {list(entry(0, s, 5, most)), most, api.ErrOver}, {list(entry(0, s, 5, most)), m - most, api.ErrOver}, {list(entry(0, s, 5, most)), m - most + 1, api.ErrOver}, {list(entry(0, s, 5, most)), m, api.ErrOver},
		{list(entry(0, s, 5, most-1)), 1, api.OK}, {list(entry(0, s, 5, most-1)), 2, api.ErrOver},
		{list(cutTo(entry(0, s, 5, m), 0)), most, api.OK}, {list(cutTo(entry(0, s, 5, m), 1)), most - 1, api.OK}, {list(cutTo(entry(0, s, 5, m), 1)), most, api.ErrOver},
		{list(entry(0, s, 5, most/2), entry(1, s, 5, most/4)), most / 4, api.OK}, {list(entry(0, s, 5, most/2), entry(1, s, 5, most/4)), most/4 + 1, api.ErrOver},
	} {
		e := entry(5, s, 12, x.n)
		want := refused(x.e)
		if x.e == api.OK {
			want = told{queue: slices.Concat(x.l, list(e))}
		}
		add(e, 1).is(t, x.l, want)
	}
}

// TestAddApart: P14.2: what is added to one list twice is two queues, of which neither shows in the other.
func TestAddApart(t *testing.T) {
	room := append(make([]api.Entry, 0, 10), begun()...)
	a := add(entry(5, bare(2, 5), 12, 1), 2).ask(room).queue
	b := add(entry(6, bare(2, 5), 13, 2), 2).ask(room).queue
	c := add(entry(7, bare(2, 5), 13, 3), 2).ask(a).queue
	d := add(entry(8, bare(2, 5), 14, 4), 2).ask(a).queue
	for _, x := range []struct {
		is, want []api.Entry
	}{
		{a, append(begun(), entry(5, bare(2, 5), 12, 1))},
		{b, append(begun(), entry(6, bare(2, 5), 13, 2))},
		{c, append(begun(), entry(5, bare(2, 5), 12, 1), entry(7, bare(2, 5), 13, 3))},
		{d, append(begun(), entry(5, bare(2, 5), 12, 1), entry(8, bare(2, 5), 14, 4))},
	} {
		if !slices.Equal(x.is, x.want) {
			t.Errorf("%v; want %v", x.is, x.want)
		}
	}
}
