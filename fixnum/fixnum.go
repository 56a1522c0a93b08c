// Package fixnum is layer 1: exact arithmetic on 64-bit amounts: see shared/doc/01-fixnum.md.
package fixnum

import (
	"math/bits"

	"distraint/api"
)

// Add tells a + b, or ErrOver if that is no amount.
func Add(a, b uint64) (sum uint64, err api.Errno) {
	low, carry := bits.Add64(a, b, 0)
	return product{high: carry, low: low}.word()
}

// Sub tells a - b, or ErrPoor if b is greater than a.
func Sub(a, b uint64) (difference uint64, err api.Errno) {
	if b > a {
		err = api.ErrPoor
		return
	}
	return a - b, api.OK
}

// Mul tells a times b, or ErrOver if that is no amount.
func Mul(a, b uint64) (uint64, api.Errno) { return times(a, b).word() }

// Sum tells the sum of l, or ErrOver if that is no amount.
func Sum(l []uint64) (uint64, api.Errno) { return fold(l, Add) }

// fold carries a result through l, from 0 on, and gives up at the first error: as no amount is negative, a sum that is too large once remains so.
func fold(l []uint64, step func(result, n uint64) (uint64, api.Errno)) (result uint64, err api.Errno) {
	for _, n := range l {
		result, err = step(result, n)
		if err != api.OK {
			return 0, err
		}
	}
	return
}

// Wide tells a times b in two words: high times 2^64 plus low.
func Wide(a, b uint64) (high, low uint64) {
	p := times(a, b)
	return p.high, p.low
}

// MulDiv tells a times b divided by c, rounded down.
func MulDiv(a, b, c uint64) (result uint64, err api.Errno) {
	quotient, _, err := times(a, b).divide(c)
	if err != api.OK {
		return
	}
	return quotient.word()
}

// MulDivUp tells a times b divided by c, rounded up.
func MulDivUp(a, b, c uint64) (result uint64, err api.Errno) {
	quotient, rest, err := times(a, b).divide(c)
	if err != api.OK {
		return
	}
	if rest > 0 {
		quotient = quotient.next()
	}
	return quotient.word()
}

// Rest tells what a times b leaves when it is divided by c.
func Rest(a, b, c uint64) (rest uint64, err api.Errno) {
	_, rest, err = times(a, b).divide(c)
	return
}

// Capped tells the smaller one of most and a times b divided by c, rounded down, which therefore cannot be too large.
func Capped(most, a, b, c uint64) (result uint64, err api.Errno) {
	quotient, _, err := times(a, b).divide(c)
	if err != api.OK {
		return
	}
	if quotient.less(product{low: most}) {
		return quotient.low, api.OK
	}
	return most, api.OK
}

// Part tells so many billionths of a, rounded down.
func Part(a, ppb uint64) (part uint64, err api.Errno) {
	if ppb > api.Billion {
		err = api.ErrRange
		return
	}
	return MulDiv(a, ppb, api.Billion)
}

// Cmp tells -1, 0 or 1 if a times b is less than, equal to, or greater than c times d.
func Cmp(a, b, c, d uint64) int { return times(a, b).compare(times(c, d)) }
