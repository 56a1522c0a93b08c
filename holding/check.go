package holding

import (
	"slices"

	"distraint/api"
	"distraint/share"
	"distraint/stamp"
)

func isAccount(n int) bool   { return n >= 0 && n < api.MaxAccounts }
func isValidator(n int) bool { return n >= 0 && n < api.MaxValidators }
func isHeight(n int) bool    { return n >= 1 && n <= api.MaxHeight }

// Check tells why a holding is not valid, or OK.
func Check(h api.Holding) api.Errno {
	if len(h.Classes) > api.MaxClasses {
		return api.ErrLong
	}
	for i, c := range h.Classes {
		if err := checkClass(h.Classes[:i], c); err != api.OK {
			return err
		}
	}
	if tooMuch(h.Classes) {
		return api.ErrOver
	}
	if err := checkPositions(h); err != api.OK {
		return err
	}
	if !addUp(h) {
		return api.ErrState
	}
	return api.OK
}

// checkClass tells why a class may not be the next one behind these, or OK.
func checkClass(ahead []api.Class, c api.Class) api.Errno {
	if stamp.Check(c.Stamp) != api.OK {
		return api.ErrRange
	}
	if !follows(ahead, c, byStamp) {
		return api.ErrOrder
	}
	if err := share.Check(c.Pool); err != api.OK {
		return err
	}
	if c.Pool == (api.Pool{}) {
		return api.ErrState
	}
	return api.OK
}

// tooMuch tells whether all tokens are more than the supply may be. What is left of that is counted down, as their sum may be no amount.
func tooMuch(l []api.Class) bool {
	left := uint64(api.MaxSupply)
	for _, c := range l {
		if c.Pool.Tokens > left {
			return true
		}
		left -= c.Pool.Tokens
	}
	return false
}

// checkPositions tells what is wrong with the first position with which something is, or OK. The classes are in order.
func checkPositions(h api.Holding) api.Errno {
	i := 0
	for p, pool := range held(h) {
		switch {
		case !isAccount(p.Owner):
			return api.ErrRange
		case !follows(h.Positions[:i], p, byOwner):
			return api.ErrOrder
		case p.Shares == 0:
			return api.ErrDust
		case pool == nil:
			return api.ErrUnknown
		}
		i++
	}
	return api.OK
}

// addUp tells whether the shares of each class are those of its positions. What is left of them is counted down in a copy, as the positions' sum may be no amount. Each position has a class.
func addUp(h api.Holding) bool {
	left := api.Holding{Classes: slices.Clone(h.Classes), Positions: h.Positions}
	for p, pool := range held(left) {
		if p.Shares > pool.Shares {
			return false
		}
		pool.Shares -= p.Shares
	}
	return !slices.ContainsFunc(left.Classes, func(c api.Class) bool { return c.Pool.Shares > 0 })
}
