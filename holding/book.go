package holding

import (
	"slices"

	"distraint/api"
	"distraint/share"
	"distraint/stamp"
)

// A book is a valid holding in memory of its own, in which it is changed.
type book api.Holding

// changed tells what a change makes of a copy of h, and the number that the change tells.
func changed(h api.Holding, change func(*book) (uint64, api.Errno)) (api.Holding, uint64, api.Errno) {
	if err := Check(h); err != api.OK {
		return api.Holding{}, 0, err
	}
	b := &book{Classes: slices.Clone(h.Classes), Positions: slices.Clone(h.Positions)}
	n, err := change(b)
	if err != api.OK {
		return api.Holding{}, 0, err
	}
	return api.Holding(*b), n, api.OK
}

func (b *book) join(owner int, s api.Stamp, a uint64) (uint64, api.Errno) {
	if !isAccount(owner) || stamp.Check(s) != api.OK {
		return 0, api.ErrRange
	}
	pool := poolOf(api.Holding(*b), s)
	if pool == (api.Pool{}) && len(b.Classes) == api.MaxClasses {
		return 0, api.ErrFull
	}
	after, shares, err := share.Join(pool, a)
	if err != api.OK {
		return 0, err
	}
	// Neither of the two is more than the supply may be by now, so their sum is an amount.
	if tokensOf(b.Classes)+a > api.MaxSupply {
		return 0, api.ErrOver
	}
	b.set(owner, s, after, sharesOf(api.Holding(*b), owner, s)+shares)
	return shares, api.OK
}

func (b *book) leave(owner int, s api.Stamp, x uint64) (uint64, api.Errno) {
	shares := sharesOf(api.Holding(*b), owner, s)
	if shares == 0 {
		return 0, api.ErrUnknown
	}
	if shares < x {
		return 0, api.ErrPoor
	}
	after, value, err := share.Leave(poolOf(api.Holding(*b), s), x)
	if err != api.OK {
		return 0, err
	}
	b.set(owner, s, after, shares-x)
	return value, api.OK
}

func (b *book) cut(validator, height int, ppb uint64) (losses []api.Loss, sum uint64, err api.Errno) {
	if !isValidator(validator) || !isHeight(height) || ppb > api.Billion {
		return nil, 0, api.ErrRange
	}
	for i, c := range b.Classes {
		if !backed(c, validator, height) {
			continue
		}
		after, part, err := share.Cut(c.Pool, ppb)
		if err != api.OK {
			return nil, 0, err
		}
		b.Classes[i].Pool = after
		losses = append(losses, api.Loss{Stamp: c.Stamp, Amount: part})
		sum += part
	}
	b.drop()
	return losses, sum, api.OK
}

// set gives the class of s this pool, and the owner so many shares in it. What is empty then goes, and what is not there comes.
func (b *book) set(owner int, s api.Stamp, pool api.Pool, shares uint64) {
	b.Classes = put(b.Classes, api.Class{Stamp: s, Pool: pool}, byStamp, pool != api.Pool{})
	b.Positions = put(b.Positions, api.Position{Owner: owner, Stamp: s, Shares: shares}, byOwner, shares > 0)
}

// put tells a list, which is changed, with x in the place that it has in order, or with nothing there if x does not stay.
func put[T any](l []T, x T, compare order[T], stays bool) []T {
	from, in := find(l, x, compare)
	to := from
	if in {
		to++
	}
	if !stays {
		return slices.Delete(l, from, to)
	}
	return slices.Replace(l, from, to, x)
}

// drop takes out the classes that are empty, and their positions.
func (b *book) drop() {
	b.Positions = slices.DeleteFunc(b.Positions, func(p api.Position) bool {
		return poolOf(api.Holding(*b), p.Stamp) == api.Pool{}
	})
	b.Classes = slices.DeleteFunc(b.Classes, func(c api.Class) bool { return c.Pool == api.Pool{} })
}
