package hop_test

import (
	"math"
	"math/rand/v2"
	"slices"

	"distraint/api"
)

const (
	top     = 1 << 32 // the greatest height
	longest = 1 << 20 // the greatest time of unbonding
)

// one is a hop, written as in the chapter's table.
func one(owner, src, dst, created int) api.Hop {
	return api.Hop{Owner: owner, Src: src, Dst: dst, Created: created}
}

func list(l ...api.Hop) []api.Hop { return l }

// with tells a copy of l, whose hop i is changed.
func with(l []api.Hop, i int, change func(x *api.Hop)) []api.Hop {
	l = slices.Clone(l)
	change(&l[i])
	return l
}

// begun has hops of one way at one height and later, the way back, and ways that differ in one number.
func begun() []api.Hop {
	return list(one(0, 1, 2, 5), one(0, 1, 2, 5), one(1, 1, 2, 6), one(0, 2, 1, 9), one(0, 1, 3, 9), one(0, 3, 2, 12), one(0, 1, 2, 40))
}

// rich has hops at all bounds.
func rich() []api.Hop {
	return list(one(0, 0, 1, 1), one(63, 31, 30, 1), one(0, 31, 0, 2), one(63, 0, 31, 300), one(5, 7, 8, 1<<20), one(31, 30, 31, top-1), one(62, 1, 0, top), one(0, 0, 31, top))
}

// long has n hops of all owners in turns, to and from all validators, at heights that go up every tenth hop. No way is gone twice within 4,096 hops.
func long(n int) (l []api.Hop) {
	for i := range n {
		src := i / 64 % 32
		l = append(l, one(i%64, src, (src+1+i/2048)%32, 1+i/10))
	}
	return l
}

// repeated has n hops that are all alike.
func repeated(n int, x api.Hop) []api.Hop { return slices.Repeat(list(x), n) }

// valids are lists of hops: small ones, and ones at the bounds.
func valids() [][]api.Hop {
	return append(some(), long(300), long(4095), long(4096), repeated(4096, one(0, 1, 2, top)))
}

// some are the valid ones that are not long.
func some() [][]api.Hop {
	return [][]api.Hop{
		nil,
		{},
		begun(),
		rich(),
		list(one(0, 0, 1, 1)),
		list(one(63, 31, 30, top)),
		list(one(0, 31, 0, 1), one(63, 0, 31, top)),
		list(one(0, 1, 2, top), one(0, 1, 2, top)),
		repeated(40, one(7, 8, 9, 3)),
		long(60),
	}
}

// strangers are numbers of no account; none of them is a validator either.
func strangers() []int {
	return []int{math.MinInt, -top, -2, -1, 64, 65, 128, 320, top, math.MaxInt}
}

// foreign are numbers of no validator.
func foreign() []int { return append(strangers(), 32, 33, 63) }

// timeless are numbers of no height.
func timeless() []int { return []int{math.MinInt, -top, -1, 0, top + 1, 2 * top, math.MaxInt} }

// endless are numbers that are no time of unbonding.
func endless() []int { return []int{math.MinInt, -longest, -1, 0, longest + 1, top, math.MaxInt} }

// source draws the same numbers in every run.
func source(seed uint64) *rand.Rand { return rand.New(rand.NewPCG(seed, 15)) }

// several draws a number from 1 to n; short ones are as likely as long ones.
func several(r *rand.Rand, n int) int { return 1 + int(r.Uint64()>>r.IntN(64)%uint64(n)) }

// way draws one of few hops at a height.
func way(r *rand.Rand, created int) api.Hop {
	src := r.IntN(3)
	return one(r.IntN(3), src, (src+1+r.IntN(2))%3, created)
}

// drawn draws a list of a few hops, of few owners.
func drawn(r *rand.Rand) (l []api.Hop) {
	h := 1
	for range r.IntN(14) {
		h += r.IntN(3)
		l = append(l, way(r, h))
	}
	if r.IntN(10) == 0 {
		h = max(h, several(r, top))
		l = append(l, one(r.IntN(64), r.IntN(31), 31, h), one(63, r.IntN(31), 31, max(h, several(r, top))))
	}
	return l
}

// newest tells at which height the last hop was created, or 1 if there is none: no height is ahead of that.
func newest(l []api.Hop) int {
	if len(l) == 0 {
		return 1
	}
	return l[len(l)-1].Created
}
