package active_test

import (
	"math"
	"math/rand/v2"
)

const m = math.MaxUint64

// bools tells a list of bools, written as digits.
func bools(digits string) (l []bool) {
	for _, d := range digits {
		l = append(l, d == '1')
	}
	return l
}

func amounts(l ...uint64) []uint64 { return l }

func numbers(l ...int) []int { return l }

// same tells n equal elements.
func same[T any](n int, x T) (l []T) {
	for range n {
		l = append(l, x)
	}
	return l
}

// after tells n zero elements, and others behind them.
func after[T any](n int, l ...T) []T { return append(make([]T, n), l...) }

// lists tells all lists of at most n of these elements.
func lists[T any](n int, of ...T) [][]T {
	all := [][]T{nil}
	for last := all; n > 0; n-- {
		var longer [][]T
		for _, l := range last {
			for _, x := range of {
				longer = append(longer, append(l[:len(l):len(l)], x))
			}
		}
		all, last = append(all, longer...), longer
	}
	return all
}

// many are numbers of validators that may be chosen at most: ones around n, and far ones.
func many(n int) []int {
	return []int{math.MinInt, -1 << 32, -n, -2, -1, 0, 1, 2, n - 2, n - 1, n, n + 1, n + 2, 2 * n, 1 << 31, 1 << 32, math.MaxInt}
}

// source draws the same numbers in every run.
func source(seed uint64) *rand.Rand { return rand.New(rand.NewPCG(seed, 17)) }

// amount draws a number of tokens: mostly one of few, so that equal ones are common, else one of any length.
func amount(r *rand.Rand) uint64 {
	switch r.IntN(8) {
	case 0:
		return m - uint64(r.IntN(3))
	case 1, 2:
		return r.Uint64() >> r.IntN(64)
	}
	return uint64(r.IntN(6))
}

// size draws a number of elements: mostly a small one.
func size(r *rand.Rand) int {
	if r.IntN(10) == 0 {
		return r.IntN(200)
	}
	return r.IntN(9)
}

func drawnTokens(r *rand.Rand) (l []uint64) {
	for range size(r) {
		l = append(l, amount(r))
	}
	return l
}

// drawnSet draws bools, of which mostly true, mostly false, or either.
func drawnSet(r *rand.Rand) (l []bool) {
	trues := 1 + r.IntN(4)
	for range size(r) {
		l = append(l, r.IntN(5) < trues)
	}
	return l
}
