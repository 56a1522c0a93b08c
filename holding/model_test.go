package holding_test

import (
	"math/big"

	"distraint/api"
	"distraint/share"
	"distraint/stamp"
)

func whole(n uint64) *big.Int { return new(big.Int).SetUint64(n) }

// model is a valid holding by stamps and owners, without an order.
type model struct {
	pools map[api.Stamp]api.Pool
	parts map[api.Position]uint64
}

func modelOf(h api.Holding) model {
	x := model{map[api.Stamp]api.Pool{}, map[api.Position]uint64{}}
	for _, c := range h.Classes {
		x.pools[c.Stamp] = c.Pool
	}
	for _, p := range h.Positions {
		x.parts[part(p.Owner, p.Stamp, 0)] = p.Shares
	}
	return x
}

// holding tells what is not empty, in order.
func (x model) holding() (h api.Holding) {
	for s, p := range x.pools {
		if p != (api.Pool{}) {
			h.Classes = append(h.Classes, api.Class{Stamp: s, Pool: p})
		}
	}
	for p, shares := range x.parts {
		if shares > 0 && x.pools[p.Stamp] != (api.Pool{}) {
			h.Positions = append(h.Positions, part(p.Owner, p.Stamp, shares))
		}
	}
	return sorted(h)
}

// supply tells all tokens, however many they are.
func supply(h api.Holding) *big.Int {
	sum := new(big.Int)
	for _, c := range h.Classes {
		sum.Add(sum, whole(c.Pool.Tokens))
	}
	return sum
}

// checked tells what the chapter's words say of a holding.
func checked(h api.Holding) api.Errno {
	if len(h.Classes) > 1024 {
		return api.ErrLong
	}
	for i, c := range h.Classes {
		switch {
		case stamp.Check(c.Stamp) != api.OK:
			return api.ErrRange
		case i > 0 && byNumbers(part(0, h.Classes[i-1].Stamp, 0), part(0, c.Stamp, 0)) >= 0:
			return api.ErrOrder
		case share.Check(c.Pool) != api.OK:
			return share.Check(c.Pool)
		case c.Pool.Tokens == 0 && c.Pool.Shares == 0:
			return api.ErrState
		}
	}
	if supply(h).Cmp(whole(4611686018427387904)) > 0 {
		return api.ErrOver
	}
	sums := map[api.Stamp]*big.Int{}
	for _, c := range h.Classes {
		sums[c.Stamp] = new(big.Int)
	}
	for i, p := range h.Positions {
		switch {
		case p.Owner < 0 || p.Owner > 63:
			return api.ErrRange
		case i > 0 && byNumbers(h.Positions[i-1], p) >= 0:
			return api.ErrOrder
		case p.Shares == 0:
			return api.ErrDust
		case sums[p.Stamp] == nil:
			return api.ErrUnknown
		}
		sums[p.Stamp].Add(sums[p.Stamp], whole(p.Shares))
	}
	for _, c := range h.Classes {
		if sums[c.Stamp].Cmp(whole(c.Pool.Shares)) != 0 {
			return api.ErrState
		}
	}
	return api.OK
}

func wantJoin(h api.Holding, owner int, s api.Stamp, a uint64) told {
	if owner < 0 || owner > 63 || stamp.Check(s) != api.OK {
		return refused(api.ErrRange)
	}
	x := modelOf(h)
	before, in := x.pools[s]
	if !in && len(h.Classes) == 1024 {
		return refused(api.ErrFull)
	}
	after, n, err := share.Join(before, a)
	if err != api.OK {
		return refused(err)
	}
	if new(big.Int).Add(supply(h), whole(a)).Cmp(whole(4611686018427387904)) > 0 {
		return refused(api.ErrOver)
	}
	x.pools[s] = after
	x.parts[part(owner, s, 0)] += n
	return told{holding: x.holding(), n: n}
}

func wantLeave(h api.Holding, owner int, s api.Stamp, n uint64) told {
	x := modelOf(h)
	has, in := x.parts[part(owner, s, 0)]
	if !in {
		return refused(api.ErrUnknown)
	}
	if has < n {
		return refused(api.ErrPoor)
	}
	after, value, err := share.Leave(x.pools[s], n)
	if err != api.OK {
		return refused(err)
	}
	x.pools[s] = after
	x.parts[part(owner, s, 0)] -= n
	return told{holding: x.holding(), n: value}
}

func wantCut(h api.Holding, validator, height int, ppb uint64) told {
	if validator < 0 || validator > 31 || height < 1 || height > 4294967296 || ppb > 1000000000 {
		return refused(api.ErrRange)
	}
	x := modelOf(h)
	var losses []api.Loss
	sum := new(big.Int)
	for _, c := range h.Classes {
		if stamp.Backed(c.Stamp, validator, height, 0) {
			after, n, _ := share.Cut(c.Pool, ppb)
			x.pools[c.Stamp] = after
			losses = append(losses, loss(c.Stamp, n))
			sum.Add(sum, whole(n))
		}
	}
	return told{holding: x.holding(), losses: losses, n: sum.Uint64()}
}

func wantFind(h api.Holding, s api.Stamp) told {
	for _, c := range h.Classes {
		if c.Stamp == s {
			return told{pool: c.Pool, is: true}
		}
	}
	return told{}
}

func wantValue(h api.Holding, owner int, s api.Stamp) told {
	x := modelOf(h)
	has, in := x.parts[part(owner, s, 0)]
	if !in {
		return refused(api.ErrUnknown)
	}
	return told{n: rounded(x.pools[s], has)}
}

// rounded tells the worth of shares in a pool.
func rounded(p api.Pool, shares uint64) uint64 {
	n := new(big.Int).Mul(whole(shares), whole(p.Tokens))
	return n.Div(n, whole(p.Shares)).Uint64()
}

func wantOwn(h api.Holding, owner, validator int) (l told) {
	for p, shares := range modelOf(h).parts {
		if p.Owner == owner && p.Stamp.Validator == validator {
			l.n += rounded(modelOf(h).pools[p.Stamp], shares)
		}
	}
	return l
}

func wantTokens(h api.Holding, validator int) (l told) {
	for _, c := range h.Classes {
		if c.Stamp.Validator == validator {
			l.n += c.Pool.Tokens
		}
	}
	return l
}

func wantOf(h api.Holding, owner int) (l told) {
	for _, p := range h.Positions {
		if p.Owner == owner {
			l.positions = append(l.positions, p)
		}
	}
	return l
}

func wantExposed(h api.Holding, validator, height int) (l told) {
	if validator < 0 || validator > 31 || height < 1 || height > 4294967296 {
		return l
	}
	for _, c := range h.Classes {
		if stamp.Backed(c.Stamp, validator, height, 0) {
			l.classes = append(l.classes, c)
		}
	}
	return l
}
