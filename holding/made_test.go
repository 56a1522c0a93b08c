package holding_test

import (
	"math"
	"math/rand/v2"
	"slices"

	"distraint/api"
)

const (
	m    = 1<<64 - 1 // the greatest number
	most = 1 << 62   // the greatest supply
	top  = 1 << 32   // the greatest height
	all  = 1000000000
)

// bare is the stamp of lots that backed nobody before.
func bare(v, since int) api.Stamp { return api.Stamp{Validator: v, Since: since, Prior: -1} }

func hopped(v, since, prior, from int) api.Stamp {
	return api.Stamp{Validator: v, Since: since, Prior: prior, From: from}
}

func pool(tokens, shares uint64) api.Pool { return api.Pool{Tokens: tokens, Shares: shares} }

func class(s api.Stamp, tokens, shares uint64) api.Class {
	return api.Class{Stamp: s, Pool: pool(tokens, shares)}
}

func part(owner int, s api.Stamp, shares uint64) api.Position {
	return api.Position{Owner: owner, Stamp: s, Shares: shares}
}

func loss(s api.Stamp, amount uint64) api.Loss { return api.Loss{Stamp: s, Amount: amount} }

func classes(l ...api.Class) []api.Class { return l }

func of(classes []api.Class, positions ...api.Position) api.Holding {
	return api.Holding{Classes: classes, Positions: positions}
}

// alone is a holding of one class, all of which the account 5 has.
func alone(s api.Stamp, tokens, shares uint64) api.Holding {
	return of(classes(class(s, tokens, shares)), part(5, s, shares))
}

// begun is the holding of the chapter's table.
func begun() api.Holding {
	return of(classes(class(bare(2, 5), 20, 20), class(bare(3, 6), 7, 7)), part(0, bare(2, 5), 10), part(1, bare(2, 5), 10), part(1, bare(3, 6), 7))
}

// rich has classes of several histories, whose shares are more than their tokens.
func rich() api.Holding {
	a, b, c, d, e := bare(1, 4), hopped(1, 9, 0, 2), hopped(1, 9, 2, 3), hopped(2, 7, 1, 4), bare(31, top)
	return of(classes(class(a, 9, 10), class(b, 100, 150), class(c, 1, 1), class(d, 50, 60), class(e, 1000, m)),
		part(0, a, 4), part(0, d, 60), part(3, b, 149), part(3, c, 1), part(3, e, 7), part(62, a, 6), part(63, b, 1), part(63, e, m-7))
}

func copied(h api.Holding) api.Holding {
	return api.Holding{Classes: slices.Clone(h.Classes), Positions: slices.Clone(h.Positions)}
}

// with tells a copy of h, which is changed.
func with(h api.Holding, change func(h *api.Holding)) api.Holding {
	h = copied(h)
	change(&h)
	return h
}

// wide has n classes, each with a position of one share; these are the accounts' in turns.
func wide(n int) (h api.Holding) {
	for i := range n {
		s := bare(i/32, 1+i%32)
		h.Classes = append(h.Classes, class(s, 1, 1))
		h.Positions = append(h.Positions, part(i%64, s, 1))
	}
	slices.SortFunc(h.Positions, byNumbers)
	return h
}

// crowd has one class, in which each account has a position.
func crowd(shares uint64) (h api.Holding) {
	s := hopped(4, 20, 3, 20)
	h.Classes = classes(class(s, 64, 64*shares))
	for owner := range 64 {
		h.Positions = append(h.Positions, part(owner, s, shares))
	}
	return h
}

// full has as many positions as there can be: of each account in each of 1,024 classes, the position i there with shares(i).
func full(stamp func(i int) api.Stamp, shares func(i int) uint64) (h api.Holding) {
	for i := range 1024 {
		h.Classes = append(h.Classes, class(stamp(i), 1, 0))
	}
	for i := range 65536 {
		c := &h.Classes[i%1024]
		h.Positions = append(h.Positions, part(i/1024, c.Stamp, shares(i)))
		c.Pool.Shares += shares(i)
	}
	return h
}

func short(i int) api.Stamp { return bare(i/32, 1+i%32) }

func one(int) uint64 { return 1 }

// valids are valid holdings: small ones, and ones at the bounds.
func valids() []api.Holding {
	s := bare(2, 5)
	return []api.Holding{
		{},
		{Classes: []api.Class{}, Positions: []api.Position{}},
		begun(),
		rich(),
		alone(bare(0, 1), 1, 1),
		alone(bare(31, top), 1, m),
		alone(hopped(0, top, 31, top), most, most),
		alone(hopped(31, 1, 0, 1), most, m),
		of(classes(class(s, most-1, most-1), class(bare(3, 5), 1, 1)), part(0, bare(3, 5), 1), part(1, s, most-1)),
		of(classes(class(s, most/2, most/2), class(bare(3, 5), most/2, m)), part(0, s, most/2), part(0, bare(3, 5), m)),
		of(classes(class(s, 5, m)), part(0, s, 1<<63), part(1, s, 1<<63-1)),
		of(classes(class(s, 5, m)), part(0, s, 1), part(63, s, m-1)),
		of(classes(class(s, 3, 10), class(hopped(2, 5, 0, 3), 3, 10), class(hopped(2, 5, 0, 5), 3, 10), class(hopped(2, 5, 1, 1), 3, 10), class(bare(2, 6), 3, 10), class(bare(3, 1), 3, 10)),
			part(7, s, 10), part(7, hopped(2, 5, 0, 3), 10), part(7, hopped(2, 5, 0, 5), 10), part(7, hopped(2, 5, 1, 1), 10), part(7, bare(2, 6), 10), part(7, bare(3, 1), 10)),
		crowd(1),
		crowd(1 << 57),
		wide(33),
		wide(1023),
		wide(1024),
	}
}

// wrong is a holding that is not valid, and why.
type wrong struct {
	h   api.Holding
	err api.Errno
}

// invalidStamps break each rule for stamps.
func invalidStamps() []api.Stamp {
	return []api.Stamp{{}, bare(-1, 5), bare(32, 5), bare(2, 0), bare(2, -1), bare(2, top+1), hopped(2, 5, -2, 1), hopped(2, 5, 32, 1), hopped(2, 5, 2, 1), hopped(2, 5, -1, 1), hopped(2, 5, 1, 0), hopped(2, 5, 1, -1), hopped(2, 5, 1, 6),
		hopped(math.MinInt, math.MinInt, math.MinInt, math.MinInt), hopped(math.MaxInt, math.MaxInt, math.MaxInt, math.MaxInt)}
}

// invalidPools break each rule for pools.
func invalidPools() map[api.Errno][]api.Pool {
	return map[api.Errno][]api.Pool{
		api.ErrOrder: {pool(1, 0), pool(11, 10), pool(m, m-1), pool(most+1, most)},
		api.ErrOver:  {pool(most+1, most+1), pool(most+1, m), pool(1<<63, m), pool(m, m)},
		api.ErrState: {pool(0, 1), pool(0, 10), pool(0, m), pool(0, 0)},
	}
}

// strangers are numbers of no account; none of them is a validator either.
func strangers() []int {
	return []int{math.MinInt, -top, -2, -1, 64, 65, 128, 320, top, math.MaxInt}
}

// foreign are numbers of no validator.
func foreign() []int { return append(strangers(), 32, 33, 63) }

// timeless are numbers of no height.
func timeless() []int { return []int{math.MinInt, -top, -1, 0, top + 1, 2 * top, math.MaxInt} }

// source draws the same numbers in every run.
func source(seed uint64) *rand.Rand { return rand.New(rand.NewPCG(seed, 13)) }

// amount draws a number from 1 to n; short ones are as likely as long ones.
func amount(r *rand.Rand, n uint64) uint64 { return 1 + r.Uint64()>>r.IntN(64)%n }

// history draws one of few stamps.
func history(r *rand.Rand) api.Stamp {
	s := bare(r.IntN(4), 1+r.IntN(6))
	if r.IntN(2) == 0 {
		s.Prior, s.From = (s.Validator+1+r.IntN(3))%4, 1+r.IntN(s.Since)
	}
	return s
}

// drawn draws a valid holding of a few classes.
func drawn(r *rand.Rand) (h api.Holding) {
	found := map[api.Stamp]bool{}
	for range r.IntN(7) {
		s := history(r)
		if found[s] {
			continue
		}
		found[s] = true
		tokens := amount(r, most/8)
		shares := tokens
		switch r.IntN(3) {
		case 0:
			shares += amount(r, 100)
		case 1:
			shares += amount(r, m-tokens)
		}
		h.Classes = append(h.Classes, class(s, tokens, shares))
		for _, owner := range r.Perm(64)[:1+r.IntN(4)] {
			x := amount(r, shares)
			if x == shares {
				continue
			}
			shares -= x
			h.Positions = append(h.Positions, part(owner%6, s, x))
		}
		h.Positions = append(h.Positions, part(6, s, shares))
	}
	return sorted(h)
}

// sorted puts a holding in its order, and the positions of an owner in a class together.
func sorted(h api.Holding) (l api.Holding) {
	l.Classes = slices.Clone(h.Classes)
	slices.SortFunc(l.Classes, func(a, b api.Class) int { return byNumbers(part(0, a.Stamp, 0), part(0, b.Stamp, 0)) })
	each := slices.Clone(h.Positions)
	slices.SortFunc(each, byNumbers)
	for _, p := range each {
		if n := len(l.Positions); n > 0 && byNumbers(l.Positions[n-1], p) == 0 {
			l.Positions[n-1].Shares += p.Shares
		} else {
			l.Positions = append(l.Positions, p)
		}
	}
	return l
}

// byNumbers is the order of positions in the chapter's words: the first number in which two differ decides.
func byNumbers(a, b api.Position) int {
	return slices.Compare([]int{a.Owner, a.Stamp.Validator, a.Stamp.Since, a.Stamp.Prior, a.Stamp.From}, []int{b.Owner, b.Stamp.Validator, b.Stamp.Since, b.Stamp.Prior, b.Stamp.From})
}
