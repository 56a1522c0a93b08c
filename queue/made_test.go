package queue_test

import (
	"math"
	"math/rand/v2"
	"slices"

	"distraint/api"
)

const (
	m    = 1<<64 - 1 // the greatest number
	most = 1 << 62   // the greatest supply
	top  = 1 << 32   // the greatest height
	all  = 1000000000
)

// bare is the stamp of lots that backed nobody before.
func bare(v, since int) api.Stamp { return api.Stamp{Validator: v, Since: since, Prior: -1} }

func hopped(v, since, prior, from int) api.Stamp {
	return api.Stamp{Validator: v, Since: since, Prior: prior, From: from}
}

// entry is one of which nothing was cut.
func entry(owner int, s api.Stamp, created int, a uint64) api.Entry {
	return api.Entry{Owner: owner, Stamp: s, Created: created, Initial: a, Balance: a}
}

// cutTo is x of which so much is left.
func cutTo(x api.Entry, balance uint64) api.Entry {
	x.Balance = balance
	return x
}

func list(l ...api.Entry) []api.Entry { return l }

func shave(at int, amount uint64) api.Shave { return api.Shave{At: at, Amount: amount} }

// with tells a copy of l, whose entry i is changed.
func with(l []api.Entry, i int, change func(x *api.Entry)) []api.Entry {
	l = slices.Clone(l)
	change(&l[i])
	return l
}

// begun is the queue of the chapter's table.
func begun() []api.Entry {
	return list(entry(0, bare(2, 5), 9, 10), entry(1, bare(2, 5), 9, 20), entry(0, hopped(3, 6, 2, 5), 12, 30))
}

// rich has entries of several histories, whole ones, and ones of which something or all was cut.
func rich() []api.Entry {
	return list(
		entry(63, bare(31, 1), 1, 1),
		cutTo(entry(0, bare(0, 1), 1, m), 0),
		cutTo(entry(0, hopped(3, 6, 2, 5), 6, 30), 29),
		entry(5, hopped(2, 7, 3, 7), 9, 1<<40),
		entry(5, bare(2, 9), 9, 1000),
		cutTo(entry(62, hopped(2, 8, 31, 1), 300, m), 1<<61),
		entry(0, bare(0, 1), top, 7),
		cutTo(entry(0, hopped(31, top, 0, top), top, 5), 0),
	)
}

// long has n entries of one token, of all accounts and validators in turns, at heights that go up every tenth entry.
func long(n int) (l []api.Entry) {
	for i := range n {
		l = append(l, entry(i%64, bare(i/64%32, 1), 1+i/10, 1))
	}
	return l
}

// repeated has n entries that are all alike.
func repeated(n int, x api.Entry) []api.Entry { return slices.Repeat(list(x), n) }

// valids are queues: small ones, and ones at the bounds.
func valids() [][]api.Entry {
	s := bare(2, 5)
	return [][]api.Entry{
		nil,
		{},
		begun(),
		rich(),
		list(entry(0, bare(0, 1), 1, 1)),
		list(entry(63, bare(31, top), top, most)),
		list(cutTo(entry(63, hopped(31, top, 30, top), top, m), most)),
		list(cutTo(entry(1, hopped(0, 1, 31, 1), top, m), 0)),
		list(entry(0, s, 5, most-1), entry(0, s, 5, 1)),
		list(entry(0, s, 5, most/2), entry(1, s, 6, most/2)),
		list(cutTo(entry(0, s, 5, m), 0), entry(1, s, 6, most), cutTo(entry(2, s, 6, m), 0)),
		repeated(40, entry(7, s, 8, 3)),
		long(300),
		long(32767),
		long(32768),
	}
}

// some are the valid ones that are not long.
func some() [][]api.Entry {
	return slices.DeleteFunc(valids(), func(l []api.Entry) bool { return len(l) > 100 })
}

// invalidStamps break each rule for stamps.
func invalidStamps() []api.Stamp {
	return []api.Stamp{{}, bare(-1, 5), bare(32, 5), bare(2, 0), bare(2, -1), bare(2, top+1), hopped(2, 5, -2, 1), hopped(2, 5, 32, 1), hopped(2, 5, 2, 1), hopped(2, 5, -1, 1), hopped(2, 5, 1, 0), hopped(2, 5, 1, -1), hopped(2, 5, 1, 6),
		hopped(math.MinInt, math.MinInt, math.MinInt, math.MinInt), hopped(math.MaxInt, math.MaxInt, math.MaxInt, math.MaxInt)}
}

// strangers are numbers of no account; none of them is a validator either.
func strangers() []int {
	return []int{math.MinInt, -top, -2, -1, 64, 65, 128, 320, top, math.MaxInt}
}

// foreign are numbers of no validator.
func foreign() []int { return append(strangers(), 32, 33, 63) }

// timeless are numbers of no height.
func timeless() []int { return []int{math.MinInt, -top, -1, 0, top + 1, 2 * top, math.MaxInt} }

// source draws the same numbers in every run.
func source(seed uint64) *rand.Rand { return rand.New(rand.NewPCG(seed, 14)) }

// amount draws a number from 1 to n; short ones are as likely as long ones.
func amount(r *rand.Rand, n uint64) uint64 { return 1 + r.Uint64()>>r.IntN(64)%n }

// history draws one of few stamps, of heights up to h.
func history(r *rand.Rand, h int) api.Stamp {
	s := bare(r.IntN(4), 1+r.IntN(min(h, 6)))
	if r.IntN(2) == 0 {
		s.Prior, s.From = (s.Validator+1+r.IntN(3))%4, 1+r.IntN(s.Since)
	}
	return s
}

// drawn draws a queue of a few entries, of few owners.
func drawn(r *rand.Rand) (l []api.Entry) {
	h, left := 1, uint64(most)
	for range r.IntN(12) {
		h += r.IntN(3)
		x := entry(r.IntN(4), history(r, h), h, amount(r, m/2))
		x.Balance = min(x.Initial, left/2)
		switch r.IntN(4) {
		case 0:
			x.Balance = 0
		case 1:
			x.Balance /= amount(r, 100)
		}
		left -= x.Balance
		l = append(l, x)
	}
	return l
}
