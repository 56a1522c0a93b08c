package hop_test

import (
	"math"
	"slices"
	"testing"

	"distraint/api"
)

// limits are numbers that most may be, and ones that it may not be.
func limits() ([]int, []int) {
	return []int{1, 2, 3, 15, 16}, []int{math.MinInt, -16, -1, 0, 17, 32, 4096, math.MaxInt}
}

// TestAddEmpty: P15.2: the first hop of all, at all bounds of a hop.
func TestAddEmpty(t *testing.T) {
	right, _ := limits()
	for _, owner := range []int{0, 1, 62, 63} {
		for _, created := range []int{1, 2, top - 1, top} {
			for _, x := range []api.Hop{one(owner, 0, 31, created), one(owner, 31, 0, created), one(owner, 1, 0, created), one(owner, 30, 31, created)} {
				for _, limit := range right {
					add(x, limit).is(t, nil, told{hops: list(x)})
					add(x, limit).is(t, []api.Hop{}, told{hops: list(x)})
				}
			}
		}
	}
}

// TestAddBehind: P15.2: a hop comes last, at the height of the last one or later; the others stay as they are.
func TestAddBehind(t *testing.T) {
	for _, l := range some() {
		for _, created := range []int{1, newest(l) - 1, newest(l), newest(l) + 1, top} {
			x := one(9, 20, 21, created)
			switch {
			case created < 1, created > top:
				add(x, 1).is(t, l, refused(api.ErrRange))
			case created < newest(l):
				add(x, 1).is(t, l, refused(api.ErrOrder))
			default:
				add(x, 1).is(t, l, told{hops: slices.Concat(l, list(x))})
			}
		}
	}
}

// TestAddLimit: P15.2: most from 1 to 16, with a hop that is valid and one that is not.
func TestAddLimit(t *testing.T) {
	right, others := limits()
	x := one(5, 1, 2, 40)
	for _, limit := range right {
		add(x, limit).is(t, begun(), told{hops: append(begun(), x)})
		add(one(5, 1, 1, 40), limit).is(t, begun(), refused(api.ErrRange))
	}
	for _, limit := range others {
		for _, l := range [][]api.Hop{nil, begun(), long(4096)} {
			for _, e := range []api.Hop{x, {}, one(0, 1, 2, 1), one(0, 1, 2, 40), one(0, 1, 1, 40), one(63, 0, 31, top)} {
				add(e, limit).is(t, l, refused(api.ErrRange))
			}
		}
	}
}

// TestAddWrong: P15.2: a hop that breaks each rule for hops, ahead of its order, of the limit, and of a list that is full.
func TestAddWrong(t *testing.T) {
	full := repeated(4096, one(0, 1, 2, 40))
	for _, s := range spoilers() {
		for _, l := range [][]api.Hop{nil, begun(), full} {
			for _, x := range []api.Hop{one(5, 7, 8, 40), one(0, 1, 2, 40), one(0, 1, 2, 3)} {
				s.spoil(&x, 40)
				if s.err == api.ErrOrder && len(l) == 0 {
					add(x, 1).is(t, l, told{hops: list(x)}) // nothing is before it
					continue
				}
				add(x, 1).is(t, l, refused(s.err))
				add(x, 16).is(t, l, refused(s.err))
			}
		}
	}
}

// TestAddOrder: P15.2: a hop that was Created before the last one, ahead of the limit and of a list that is full.
func TestAddOrder(t *testing.T) {
	for _, l := range [][]api.Hop{list(one(0, 1, 2, 40)), repeated(16, one(0, 1, 2, 40)), repeated(4096, one(0, 1, 2, 40))} {
		for _, created := range []int{1, 2, 38, 39} {
			add(one(0, 1, 2, created), 1).is(t, l, refused(api.ErrOrder))
			add(one(0, 1, 2, created), 16).is(t, l, refused(api.ErrOrder))
			add(one(0, 2, 1, created), 1).is(t, l, refused(api.ErrOrder))
		}
		add(one(0, 1, 2, 40), 1).is(t, l, refused(api.ErrCap))
		add(one(0, 1, 2, 41), 1).is(t, l, refused(api.ErrCap))
	}
	add(one(0, 1, 2, 8), 16).is(t, list(one(0, 1, 2, 5), one(0, 1, 2, 9)), refused(api.ErrOrder))
	add(one(0, 1, 2, 5), 16).is(t, list(one(0, 1, 2, 5), one(0, 1, 2, 9)), refused(api.ErrOrder))
}

// TestAddCap: P15.2: as many hops of its Owner, Src and Dst as there may be, and one less. Hops that differ in one of the three do not count, at whatever height.
func TestAddCap(t *testing.T) {
	right, _ := limits()
	for _, limit := range right {
		l := list(one(1, 2, 3, 1))
		others := func(h int) []api.Hop {
			return list(one(2, 2, 3, h), one(1, 4, 3, h), one(1, 2, 4, h), one(1, 3, 2, h), one(2, 1, 3, h), one(3, 2, 1, h))
		}
		for i := range limit - 1 {
			for _, x := range []api.Hop{one(1, 2, 3, 2+i), one(1, 2, 3, top)} {
				add(x, limit).is(t, l, told{hops: slices.Concat(l, list(x))})
				add(x, i+1).is(t, l, refused(api.ErrCap))
				add(x, i+2).is(t, l, told{hops: slices.Concat(l, list(x))})
			}
			l = slices.Concat(l, others(2+i), list(one(1, 2, 3, 2+i)), others(2+i))
		}
		for _, x := range []api.Hop{one(1, 2, 3, limit), one(1, 2, 3, limit+1), one(1, 2, 3, top)} {
			for n := 1; n <= limit; n++ {
				add(x, n).is(t, l, refused(api.ErrCap))
			}
			if limit < 16 {
				add(x, limit+1).is(t, l, told{hops: slices.Concat(l, list(x))})
			}
		}
		for _, x := range list(one(5, 2, 3, top), one(1, 5, 3, top), one(1, 2, 5, top)) {
			add(x, 1).is(t, l, told{hops: slices.Concat(l, list(x))})
		}
	}
	many := repeated(40, one(1, 2, 3, 9))
	add(one(1, 2, 3, 9), 16).is(t, many, refused(api.ErrCap))
	add(one(1, 3, 2, 9), 1).is(t, many, told{hops: slices.Concat(many, list(one(1, 3, 2, 9)))})
}

// TestAddFull: P15.2: there are 4,096 hops already, behind the limit; one less leaves room.
func TestAddFull(t *testing.T) {
	l := long(4096)
	again := one(0, 0, 1, top)
	add(again, 1).is(t, l, refused(api.ErrCap))
	add(again, 2).is(t, l, refused(api.ErrLong))
	add(again, 16).is(t, l, refused(api.ErrLong))
	add(again, 1).is(t, l[1:], told{hops: slices.Concat(l[1:], list(again))})
	add(again, 1).is(t, l[:4095], refused(api.ErrCap))
	add(again, 2).is(t, l[:4095], told{hops: slices.Concat(l[:4095], list(again))})
	alike := repeated(4096, one(0, 1, 2, 12))
	add(one(0, 1, 2, 12), 16).is(t, alike, refused(api.ErrCap))
	add(one(0, 2, 1, 12), 1).is(t, alike, refused(api.ErrLong))
	add(one(0, 2, 1, 11), 1).is(t, alike, refused(api.ErrOrder))
	add(one(0, 2, 1, 12), 1).is(t, alike[1:], told{hops: slices.Concat(alike[1:], list(one(0, 2, 1, 12)))})
	add(one(0, 2, 1, 12), 1).is(t, append(alike, alike[0]), refused(api.ErrLong))
}

// TestAddApart: P15.2: what is added to one list twice is two lists, of which neither shows in the other.
func TestAddApart(t *testing.T) {
	room := append(make([]api.Hop, 0, 20), begun()...)
	a := add(one(5, 1, 2, 40), 2).ask(room).hops
	b := add(one(6, 1, 2, 41), 2).ask(room).hops
	c := add(one(7, 1, 2, 42), 2).ask(a).hops
	d := add(one(8, 1, 2, 43), 2).ask(a).hops
	for _, x := range [][2][]api.Hop{
		{a, append(begun(), one(5, 1, 2, 40))},
		{b, append(begun(), one(6, 1, 2, 41))},
		{c, append(begun(), one(5, 1, 2, 40), one(7, 1, 2, 42))},
		{d, append(begun(), one(5, 1, 2, 40), one(8, 1, 2, 43))},
	} {
		if !slices.Equal(x[0], x[1]) {
			t.Errorf("%v; want %v", x[0], x[1])
		}
	}
}
