package stake_test

import (
	"math/rand/v2"
	"slices"

	"distraint/api"
	"distraint/params"
)

// drawnParams draws params with which things come about quickly.
func drawnParams(r *rand.Rand) api.Params {
	p := params.Default()
	p.Unbonding = 1 + r.IntN(6)
	p.MaxAge = r.IntN(p.Unbonding + 1)
	p.JailTime = 1 + r.IntN(5)
	p.Entries = 1 + r.IntN(3)
	p.MaxActive = 1 + r.IntN(4)
	return p
}

// drawnAmount draws an amount from 1 on; small ones are as likely as great ones.
func drawnAmount(r *rand.Rand) uint64 { return 1 + r.Uint64N(1<<(1+r.IntN(40))) }

// drawnStamp draws one of a lot of one of n validators, at most at a height.
func drawnStamp(r *rand.Rand, n, height int) api.Stamp {
	s := bare(r.IntN(n), height-r.IntN(min(height, 9)))
	if n > 1 && r.IntN(2) == 0 {
		s.Prior = (s.Validator + 1 + r.IntN(n-1)) % n
		s.From = s.Since - r.IntN(min(s.Since, 4))
	}
	return s
}

// drawn draws a ledger.
func drawn(r *rand.Rand) api.Ledger {
	x := api.Ledger{Params: drawnParams(r), Height: 1 + r.IntN(30)}
	if r.IntN(10) == 0 {
		x.Height = top - r.IntN(8)
	}
	accounts, validators := 1+r.IntN(6), r.IntN(5)
	for range accounts {
		x.Bank.Liquid = append(x.Bank.Liquid, drawnAmount(r)-1)
	}
	x.Bank.Pools[2], x.Bank.Pools[3] = drawnAmount(r)-1, drawnAmount(r)-1
	for _, operator := range r.Perm(accounts)[:min(accounts, validators)] {
		x.Validators = append(x.Validators, drawnValidator(r, operator, x.Height))
	}
	if len(x.Validators) > 0 {
		drawnLots(r, &x)
		drawnEntries(r, &x)
		drawnHops(r, &x)
	}
	return even(x)
}

func drawnValidator(r *rand.Rand, operator, height int) api.Validator {
	x := api.Validator{Operator: operator, MinSelf: drawnAmount(r), Status: 1 + r.IntN(4), Propose: r.IntN(4) == 0}
	x.Attest = x.Status == api.StatusTomb
	if x.Attest || x.Propose || x.Status == api.StatusJailed || r.IntN(4) == 0 {
		x.Until = max(height-4+r.IntN(8), 1)
	}
	return x
}

// drawnLots draws classes, and for each some owners.
func drawnLots(r *rand.Rand, x *api.Ledger) {
	drew := map[api.Stamp]bool{}
	for range r.IntN(7) {
		s := drawnStamp(r, len(x.Validators), x.Height)
		if drew[s] {
			continue
		}
		drew[s] = true
		sum := uint64(0)
		for _, owner := range r.Perm(len(x.Bank.Liquid))[:1+r.IntN(len(x.Bank.Liquid))] {
			n := drawnAmount(r)
			x.Holding.Positions = append(x.Holding.Positions, part(owner, s, n))
			sum += n
		}
		tokens := sum
		if r.IntN(2) == 0 {
			tokens = 1 + r.Uint64N(sum)
		}
		x.Holding.Classes = append(x.Holding.Classes, class(s, tokens, sum))
	}
	ordered(&x.Holding)
}

func drawnEntries(r *rand.Rand, x *api.Ledger) {
	for range r.IntN(6) {
		s := drawnStamp(r, len(x.Validators), x.Height)
		a := drawnAmount(r)
		x.Entries = append(x.Entries, entry(r.IntN(len(x.Bank.Liquid)), s, s.Since+r.IntN(x.Height-s.Since+1), a, r.Uint64N(a+1)))
	}
	slices.SortStableFunc(x.Entries, func(a, b api.Entry) int { return a.Created - b.Created })
}

func drawnHops(r *rand.Rand, x *api.Ledger) {
	n := len(x.Validators)
	for range r.IntN(5) {
		if n > 1 {
			src := r.IntN(n)
			x.Hops = append(x.Hops, jump(r.IntN(len(x.Bank.Liquid)), src, (src+1+r.IntN(n-1))%n, x.Height-r.IntN(min(x.Height, 9))))
		}
	}
	slices.SortStableFunc(x.Hops, func(a, b api.Hop) int { return a.Created - b.Created })
}

// spoilt draws a change of a number of a ledger.
func spoilt(r *rand.Rand) func(x *api.Ledger) {
	return func(x *api.Ledger) {
		n := []int{-1, 0, 1, 2, 3, 4, 5, 6, 31, 32, 63, 64, x.Height, x.Height + 1, x.Height - 1, top, top + 1}[r.IntN(17)]
		a := []uint64{0, 1, 2, supply, supply + 1, great, drawnAmount(r)}[r.IntN(7)]
		switch kind := r.IntN(8); {
		case kind == 0:
			x.Height = n
		case kind == 1:
			*[]*int{&x.Params.Unbonding, &x.Params.MaxAge, &x.Params.Entries, &x.Params.MaxActive, &x.Params.JailTime}[r.IntN(5)] = n
		case kind == 2:
			x.Bank.Pools[r.IntN(4)] += []uint64{1, great, supply, a}[r.IntN(4)]
		case kind == 3 && len(x.Holding.Classes) > 0:
			stamped(r.IntN(len(x.Holding.Classes)), func(s *api.Stamp) { spoilStamp(r, s, n) })(x)
		case kind == 4 && len(x.Holding.Positions) > 0:
			p := &x.Holding.Positions[r.IntN(len(x.Holding.Positions))]
			p.Owner = n
			ordered(&x.Holding)
		case kind == 5 && len(x.Entries) > 0:
			spoilEntry(r, &x.Entries[r.IntN(len(x.Entries))], n, a)
		case kind == 6 && len(x.Hops) > 0:
			h := &x.Hops[r.IntN(len(x.Hops))]
			*[]*int{&h.Owner, &h.Src, &h.Dst, &h.Created}[r.IntN(4)] = n
		case kind == 7 && len(x.Validators) > 0:
			spoilValidator(r, &x.Validators[r.IntN(len(x.Validators))], n, a)
		default:
			x.Bank.Liquid[r.IntN(len(x.Bank.Liquid))] = a
		}
	}
}

func spoilStamp(r *rand.Rand, s *api.Stamp, n int) {
	*[]*int{&s.Validator, &s.Since, &s.Prior, &s.From}[r.IntN(4)] = n
}

func spoilEntry(r *rand.Rand, e *api.Entry, n int, a uint64) {
	switch r.IntN(6) {
	case 0:
		e.Owner = n
	case 1:
		e.Created = n
	case 2:
		e.Initial = a
	case 3:
		e.Balance = a
	default:
		spoilStamp(r, &e.Stamp, n)
	}
}

func spoilValidator(r *rand.Rand, v *api.Validator, n int, a uint64) {
	switch r.IntN(4) {
	case 0:
		v.Operator = n
	case 1:
		v.MinSelf = a
	case 2:
		v.Until = n
	default:
		v.Status = n
	}
}
