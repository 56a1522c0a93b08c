package holding_test

import (
	"math"
	"testing"

	"distraint/api"
)

// histories has a class of 100 tokens for each of some stamps, of which the validator 1 backed: since 9; since 9, and 2 ahead of it; and 1 ahead of 3 from 5 to 9, and from 9 to 9.
func histories() api.Holding {
	var h api.Holding
	for i, s := range []api.Stamp{bare(1, 9), hopped(1, 9, 2, 5), bare(2, 1), hopped(3, 9, 1, 5), hopped(3, 9, 1, 9), hopped(3, 9, 2, 1)} {
		h.Classes = append(h.Classes, class(s, 100, 120))
		h.Positions = append(h.Positions, part(10+i, s, 120))
	}
	return h
}

// TestCutHeights: P13.4, written out: each end of the heights at which a class backed a validator, and one beyond; both ends count.
func TestCutHeights(t *testing.T) {
	for _, x := range []struct {
		v, h int
		l    []int // the classes that are cut
	}{
		{1, 1, nil}, {1, 4, nil}, {1, 5, []int{3}}, {1, 6, []int{3}}, {1, 8, []int{3}}, {1, 9, []int{0, 1, 3, 4}}, {1, 10, []int{0, 1}}, {1, top, []int{0, 1}},
		{2, 1, []int{2, 5}}, {2, 4, []int{2, 5}}, {2, 5, []int{1, 2, 5}}, {2, 9, []int{1, 2, 5}}, {2, 10, []int{2}}, {2, top, []int{2}},
		{3, 8, nil}, {3, 9, []int{3, 4, 5}}, {3, 10, []int{3, 4, 5}}, {3, top, []int{3, 4, 5}}, {0, 9, nil}, {4, 9, nil}, {31, top, nil},
	} {
		h := histories()
		want := told{holding: copied(h), n: uint64(25 * len(x.l))}
		same, none := told{holding: h}, told{n: uint64(100 * len(x.l))}
		gone := map[int]bool{}
		for _, i := range x.l {
			gone[i] = true
			want.holding.Classes[i].Pool.Tokens = 75
			want.losses = append(want.losses, loss(h.Classes[i].Stamp, 25))
			same.losses = append(same.losses, loss(h.Classes[i].Stamp, 0))
			none.losses = append(none.losses, loss(h.Classes[i].Stamp, 100))
		}
		for i, c := range h.Classes {
			if !gone[i] {
				none.holding.Classes = append(none.holding.Classes, c)
				none.holding.Positions = append(none.holding.Positions, h.Positions[i])
			}
		}
		cut(x.v, x.h, 250000000).is(t, h, want)
		cut(x.v, x.h, 0).is(t, h, same)
		cut(x.v, x.h, 1).is(t, h, same) // a billionth of 100, rounded down
		cut(x.v, x.h, 9999999).is(t, h, same)
		cut(x.v, x.h, 1000000000).is(t, h, none)
	}
}

// TestCutParts: P13.4: how much is cut, rounded down class by class; what is left without tokens goes, with its positions.
func TestCutParts(t *testing.T) {
	a, b, c := bare(1, 4), hopped(1, 9, 0, 2), hopped(1, 9, 2, 3)
	h := rich() // 9 of 10, 100 of 150, 1 of 1, and others
	l := h.Classes
	for _, x := range []struct {
		ppb     uint64
		cuts    [3]uint64
		emptied bool
	}{
		{0, [3]uint64{0, 0, 0}, false}, {1, [3]uint64{0, 0, 0}, false}, {9999999, [3]uint64{0, 0, 0}, false}, {10000000, [3]uint64{0, 1, 0}, false}, {111111111, [3]uint64{0, 11, 0}, false}, {111111112, [3]uint64{1, 11, 0}, false},
		{500000000, [3]uint64{4, 50, 0}, false}, {888888888, [3]uint64{7, 88, 0}, false}, {999999999, [3]uint64{8, 99, 0}, false}, {1000000000, [3]uint64{9, 100, 1}, true},
	} {
		want := told{
			holding: of(classes(class(a, 9-x.cuts[0], 10), class(b, 100-x.cuts[1], 150), class(c, 1-x.cuts[2], 1), l[3], l[4]), h.Positions...),
			losses:  []api.Loss{loss(a, x.cuts[0]), loss(b, x.cuts[1]), loss(c, x.cuts[2])},
			n:       x.cuts[0] + x.cuts[1] + x.cuts[2],
		}
		if x.emptied {
			want.holding = of(l[3:], part(0, l[3].Stamp, 60), part(3, l[4].Stamp, 7), part(63, l[4].Stamp, m-7))
		}
		cut(1, 9, x.ppb).is(t, h, want)
	}
	s := bare(2, 5)
	cut(2, 5, all).is(t, alone(s, most, m), told{losses: []api.Loss{loss(s, most)}, n: most})
	cut(2, 5, all-1).is(t, alone(s, most, m), told{holding: alone(s, 4611686019, m), losses: []api.Loss{loss(s, 4611686013815701885)}, n: 4611686013815701885})
	cut(2, 5, 1).is(t, alone(s, most, m), told{holding: alone(s, most-4611686018, m), losses: []api.Loss{loss(s, 4611686018)}, n: 4611686018})
	cut(2, 5, all-1).is(t, alone(s, 1, m), told{holding: alone(s, 1, m), losses: []api.Loss{loss(s, 0)}})
	cut(2, 5, all).is(t, alone(s, 1, m), told{losses: []api.Loss{loss(s, 1)}, n: 1})
	cut(2, 5, all).is(t, api.Holding{}, told{})
	halves := of(classes(class(s, most/2, most/2), class(bare(2, 6), most/2, most/2)), part(0, s, most/2), part(1, bare(2, 6), most/2))
	cut(2, 6, all).is(t, halves, told{losses: []api.Loss{loss(s, most/2), loss(bare(2, 6), most/2)}, n: most})
}

// TestCutBounds: P13.4: validators, heights and billionths at their bounds, and beyond, of any holding.
func TestCutBounds(t *testing.T) {
	for _, h := range []api.Holding{{}, begun(), rich(), histories()} {
		for _, ppb := range []uint64{0, 1, all, all + 1, m} {
			for _, v := range foreign() {
				cut(v, 5, ppb).is(t, h, refused(api.ErrRange))
			}
			for _, height := range timeless() {
				cut(2, height, ppb).is(t, h, refused(api.ErrRange))
				cut(-1, height, ppb).is(t, h, refused(api.ErrRange))
			}
		}
		for _, ppb := range []uint64{all + 1, all + 2, 2 * all, 1 << 32, 1 << 63, m} {
			for _, v := range []int{0, 1, 2, 3, 31} {
				cut(v, 9, ppb).is(t, h, refused(api.ErrRange))
			}
		}
	}
	for _, s := range []api.Stamp{bare(0, 1), bare(31, 1), hopped(31, top, 0, 1), hopped(0, top, 31, top), bare(0, top)} {
		for _, v := range []int{math.MinInt, -1, 0, 1, 30, 31, 32} {
			for _, height := range []int{-1, 0, 1, 2, top - 1, top, top + 1} {
				for _, ppb := range []uint64{0, all / 2, all, all + 1} {
					cut(v, height, ppb).holds(t, alone(s, 1000, 3000))
				}
			}
		}
	}
}

// TestCutEach: P13.4: of holdings at their bounds.
func TestCutEach(t *testing.T) {
	for _, h := range valids() {
		for _, v := range []int{0, 1, 2, 3, 15, 31} {
			for _, height := range []int{1, 5, 9, 20, 32, top} {
				for _, ppb := range []uint64{0, 333333333, all} {
					cut(v, height, ppb).holds(t, h)
				}
			}
		}
	}
	h := full(func(i int) api.Stamp { return hopped(i/32, 50+i%32, (i/32+1)%32, 50) }, one)
	cut(0, 50, all).holds(t, h)
	cut(5, 81, 1).holds(t, h)
}
