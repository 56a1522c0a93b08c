package queue

import (
	"math"

	"distraint/api"
	"distraint/fixnum"
	"distraint/stamp"
)

func isAccount(n int) bool   { return n >= 0 && n < api.MaxAccounts }
func isValidator(n int) bool { return n >= 0 && n < api.MaxValidators }
func isHeight(n int) bool    { return n >= 1 && n <= api.MaxHeight }

// Check tells why a list is no queue, and with which entry; or OK.
func Check(l []api.Entry) (api.Errno, int) {
	if len(l) > api.MaxQueue {
		return api.ErrLong, api.MaxQueue
	}
	for i, x := range l {
		if err := flaw(l[:i], x); err != api.OK {
			return err, i
		}
	}
	if balances(l) > api.MaxSupply {
		return api.ErrOver, 0
	}
	return api.OK, 0
}

// flaw tells why x may not be the next entry behind those ahead of it, or OK.
func flaw(ahead []api.Entry, x api.Entry) api.Errno {
	switch {
	case !isAccount(x.Owner), stamp.Check(x.Stamp) != api.OK, !isHeight(x.Created):
		return api.ErrRange
	case x.Created < x.Stamp.Since, len(ahead) > 0 && x.Created < ahead[len(ahead)-1].Created:
		return api.ErrOrder
	case x.Initial == 0:
		return api.ErrDust
	case x.Balance > x.Initial:
		return api.ErrState
	}
	return api.OK
}

// fold carries a result through the entries of a list, step by step.
func fold[T any](l []api.Entry, result T, step func(result T, x api.Entry) T) T {
	for _, x := range l {
		result = step(result, x)
	}
	return result
}

// balances tells the sum of the Balances, or the greatest number if that is no amount.
func balances(l []api.Entry) uint64 { return fold(l, 0, withBalance) }

// withBalance tells a sum with the Balance of x. One that is too large for an amount stays the greatest number: it is more than the supply may be anyway.
func withBalance(sum uint64, x api.Entry) uint64 {
	sum, err := fixnum.Add(sum, x.Balance)
	if err != api.OK {
		return math.MaxUint64
	}
	return sum
}
