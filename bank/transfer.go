package bank

import (
	"distraint/api"
	"distraint/fixnum"
)

// A place is where tokens are: an account, or a pool.
type place interface {
	// in tells where in b the place's balance is, or the error of a place that b does not have.
	in(b *api.Bank) (*uint64, api.Errno)
	// gives tells whether tokens may leave the place.
	gives() bool
}

type accountNumber int

func (a accountNumber) in(b *api.Bank) (*uint64, api.Errno) {
	if a < 0 || int(a) >= len(b.Liquid) {
		return nil, api.ErrUnknown
	}
	return &b.Liquid[a], api.OK
}

func (a accountNumber) gives() bool { return true }

type poolNumber int

func (p poolNumber) in(b *api.Bank) (*uint64, api.Errno) {
	if p < 0 || p >= api.MaxPools {
		return nil, api.ErrRange
	}
	return &b.Pools[p], api.OK
}

// What was burned stays so.
func (p poolNumber) gives() bool { return p != api.PoolBurned }

// Send tells the bank in which an account has sent n, which is not 0, to another account.
func Send(b api.Bank, from, to int, n uint64) (api.Bank, api.Errno) {
	return transfer(b, accountNumber(from), accountNumber(to), n, 1)
}

// Pay tells the bank in which an account has got n from a pool.
func Pay(b api.Bank, pool, to int, n uint64) (api.Bank, api.Errno) {
	return transfer(b, poolNumber(pool), accountNumber(to), n, 0)
}

// Take tells the bank in which a pool has got n from an account.
func Take(b api.Bank, from, pool int, n uint64) (api.Bank, api.Errno) {
	return transfer(b, accountNumber(from), poolNumber(pool), n, 0)
}

// Move tells the bank in which a pool has got n from another pool.
func Move(b api.Bank, from, to int, n uint64) (api.Bank, api.Errno) {
	return transfer(b, poolNumber(from), poolNumber(to), n, 0)
}

// Burn tells the bank in which n of a pool is burned.
func Burn(b api.Bank, pool int, n uint64) (api.Bank, api.Errno) {
	return Move(b, pool, api.PoolBurned, n)
}

// transfer tells the bank in which a place has n less and another one n more; n has to be at least least. What an error leaves behind in the clone is undone: no part of it is told.
func transfer(b api.Bank, from, to place, n, least uint64) (after api.Bank, err api.Errno) {
	if err = Check(b); err != api.OK {
		return
	}
	after = clone(b)
	defer func() {
		if err != api.OK {
			after = api.Bank{}
		}
	}()
	source, err := from.in(&after)
	if err != api.OK {
		return
	}
	destination, err := to.in(&after)
	if err != api.OK {
		return
	}
	if source == destination || !from.gives() || n < least {
		err = api.ErrArg
		return
	}
	if *source, err = fixnum.Sub(*source, n); err == api.OK {
		*destination, err = fixnum.Add(*destination, n)
	}
	return
}
