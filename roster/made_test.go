package roster_test

import (
	"math"
	"math/rand/v2"
	"slices"

	"distraint/api"
)

const (
	top   = 1<<32 + 1<<20 // the greatest height until which somebody is jailed
	great = math.MaxUint64
)

// The statuses, and numbers for the two flags: none of them, one or both are set.
const (
	idle, active, jailed, tomb = 1, 2, 3, 4
	clean, atts, props, both   = 0, 1, 2, 3
)

// one is a validator, written as in the encoding.
func one(operator int, minSelf uint64, status, until, flags int) api.Validator {
	return api.Validator{Operator: operator, MinSelf: minSelf, Status: status, Until: until, Attest: flags == atts || flags == both, Propose: flags == props || flags == both}
}

func list(l ...api.Validator) []api.Validator { return l }

// with tells a copy of l, whose validator i is changed.
func with(l []api.Validator, i int, change func(x *api.Validator)) []api.Validator {
	l = slices.Clone(l)
	change(&l[i])
	return l
}

// begun is the chapter's roster.
func begun() []api.Validator { return list(one(5, 1, idle, 0, clean), one(3, 9, idle, 0, clean)) }

// states has a validator in each state that there is: of each status, never jailed or with an Until, punished or not.
func states() []api.Validator {
	return list(
		one(7, 1, idle, 0, clean), one(6, 2, active, 0, clean),
		one(9, 3, idle, 30, clean), one(8, 4, active, 40, clean), one(11, 5, jailed, 50, clean),
		one(10, 6, idle, 60, props), one(13, 7, active, 70, props), one(12, 8, jailed, 80, props),
		one(15, 9, tomb, 90, atts), one(14, 10, tomb, 100, both),
	)
}

// rich has validators at all bounds.
func rich() []api.Validator {
	return list(
		one(0, 1, idle, 0, clean), one(63, great, active, top, clean), one(1, great, jailed, top, props), one(62, 1, tomb, 1, both),
		one(31, 1<<63, tomb, top, atts), one(32, 127, jailed, 1, clean), one(33, 128, active, 1, props), one(2, 1<<32, idle, top, props),
	)
}

// full has n validators, of which each tenth is in the same state.
func full(n int) (l []api.Validator) {
	all := states()
	for i := range n {
		x := all[i%len(all)]
		x.Operator, x.MinSelf = (i*37+5)%64, uint64(1+i)
		l = append(l, x)
	}
	return l
}

// valids are rosters: small ones, and ones at the bounds.
func valids() [][]api.Validator {
	l := [][]api.Validator{nil, {}, begun(), states(), rich(), full(16), full(31), full(32)}
	for _, x := range append(states(), rich()...) {
		l = append(l, list(x))
	}
	return l
}

// strangers are numbers of no account; none of them is a validator either.
func strangers() []int {
	return []int{math.MinInt, -1 << 32, -64, -2, -1, 64, 65, 128, 320, 1 << 32, math.MaxInt}
}

// foreign are numbers of no validator.
func foreign() []int { return append(strangers(), 32, 33, 63) }

// statusless are numbers of no status.
func statusless() []int {
	return []int{math.MinInt, -4, -1, 0, 5, 6, 8, 257, 260, 1 << 32, 1<<32 + 1, math.MaxInt}
}

// endless are numbers until which nobody is jailed; 0 is not among them, though it is none for Jail.
func endless() []int { return []int{math.MinInt, -top, -2, -1, top + 1, 2 * top, math.MaxInt} }

// classless are numbers of no class.
func classless() []int { return []int{math.MinInt, -2, -1, 0, 3, 4, 5, 257, 1 << 32, math.MaxInt} }

// source draws the same numbers in every run.
func source(seed uint64) *rand.Rand { return rand.New(rand.NewPCG(seed, 16)) }

// several draws a number from 1 to n; short ones are as likely as long ones.
func several(r *rand.Rand, n uint64) uint64 { return 1 + r.Uint64()>>r.IntN(64)%n }

// state draws one of the states, with a drawn Until if it has one.
func state(r *rand.Rand) api.Validator {
	x := states()[r.IntN(10)]
	if x.Until > 0 {
		x.Until = int(several(r, top))
	}
	x.MinSelf = several(r, great)
	return x
}

// drawn draws a roster, mostly a short one.
func drawn(r *rand.Rand) (l []api.Validator) {
	n := r.IntN(6)
	if r.IntN(10) == 0 {
		n = r.IntN(33)
	}
	for _, operator := range r.Perm(64)[:n] {
		x := state(r)
		x.Operator = operator
		l = append(l, x)
	}
	return l
}
