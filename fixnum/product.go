package fixnum

import (
	"math/bits"

	"distraint/api"
)

// product is high times 2^64 plus low: two words hold whatever two amounts come to, so that nothing is lost before a quotient is rounded.
type product struct{ high, low uint64 }

func times(a, b uint64) product {
	high, low := bits.Mul64(a, b)
	return product{high: high, low: low}
}

// word tells p as an amount, if it is one.
func (p product) word() (n uint64, err api.Errno) {
	if p != (product{low: p.low}) {
		err = api.ErrOver
		return
	}
	return p.low, api.OK
}

// divide tells the quotient by c, rounded down, and the remainder. The quotient has two words too, as c may be 1.
func (p product) divide(c uint64) (quotient product, rest uint64, err api.Errno) {
	if c == 0 {
		err = api.ErrArg
		return
	}
	// bits.Div64 panics unless the high word is below c: the remainder of the first step is.
	quotient.high = p.high / c
	quotient.low, rest = bits.Div64(p.high%c, p.low, c)
	return
}

// next tells p plus 1. The high word has room for the carry: no product of two amounts fills it.
func (p product) next() product {
	low, carry := bits.Add64(p.low, 1, 0)
	return product{high: p.high + carry, low: low}
}

func (p product) less(q product) bool {
	_, borrow := bits.Sub64(p.low, q.low, 0)
	_, borrow = bits.Sub64(p.high, q.high, borrow)
	return borrow == 1
}

func (p product) compare(q product) int {
	if p == q {
		return 0
	}
	if p.less(q) {
		return -1
	}
	return 1
}
