package stake

import (
	"slices"

	"distraint/api"
	"distraint/bank"
	"distraint/holding"
	"distraint/hop"
	"distraint/params"
	"distraint/queue"
	"distraint/roster"
)

// Check tells why a ledger is not valid, or OK.
func Check(x api.Ledger) api.Errno {
	l := ledger(x)
	return number(run([]step{
		l.checkParams,
		func() error { return refuse(!isHeight(l.Height), api.ErrRange) },
		l.checkParts,
		func() error { return refuse(anyFrom(len(l.Bank.Liquid), l.accounts()), api.ErrUnknown) },
		func() error { return refuse(anyFrom(len(l.Validators), l.validators()), api.ErrUnknown) },
		func() error { return refuse(anyFrom(l.Height+1, l.heights()), api.ErrAhead) },
		l.checkPools,
	}))
}

func isHeight(n int) bool { return n >= 1 && n <= api.MaxHeight }

func (l ledger) checkParams() error {
	err, _ := params.Check(l.Params)
	return wrap("params", err)
}

// checkParts tells the first part that is not valid by its layer.
func (l ledger) checkParts() error {
	return run([]step{
		func() error { return wrap("bank", bank.Check(l.Bank)) },
		func() error { return wrap("holding", holding.Check(l.Holding)) },
		func() error { err, _ := queue.Check(l.Entries); return wrap("queue", err) },
		func() error { err, _ := hop.Check(l.Hops); return wrap("hop", err) },
		func() error { err, _ := roster.Check(l.Validators); return wrap("roster", err) },
	})
}

// checkPools tells ErrState if what is bonded, or what is unbonding, is not what its pool has.
func (l ledger) checkPools() error {
	var bonded, unbonding uint64
	return run([]step{
		func() error { return put(&bonded, "holding")(holding.All(l.Holding)) },
		func() error { return put(&unbonding, "queue")(queue.Total(l.Entries)) },
		func() error { return refuse(bonded != l.Bank.Pools[api.PoolBonded], api.ErrState) },
		func() error { return refuse(unbonding != l.Bank.Pools[api.PoolUnbonding], api.ErrState) },
	})
}

// anyFrom tells whether one of some numbers is n or greater.
func anyFrom(n int, of []int) bool {
	return slices.ContainsFunc(of, func(x int) bool { return x >= n })
}

// accounts tells each account that is named; none is below 0 where the parts are valid.
func (l ledger) accounts() (all []int) {
	for _, x := range l.Holding.Positions {
		all = append(all, x.Owner)
	}
	for _, x := range l.Entries {
		all = append(all, x.Owner)
	}
	for _, x := range l.Hops {
		all = append(all, x.Owner)
	}
	for _, x := range l.Validators {
		all = append(all, x.Operator)
	}
	return all
}

// validators tells each validator that is named; where the parts are valid, only a Prior is below 0, which is nobody then. The stamps of positions are those of classes.
func (l ledger) validators() (all []int) {
	for _, x := range l.Holding.Classes {
		all = append(all, x.Stamp.Validator, x.Stamp.Prior)
	}
	for _, x := range l.Entries {
		all = append(all, x.Stamp.Validator, x.Stamp.Prior)
	}
	for _, x := range l.Hops {
		all = append(all, x.Src, x.Dst)
	}
	return all
}

// heights tells when whatever there is began; the stamp of an entry is no later than the entry.
func (l ledger) heights() (all []int) {
	for _, x := range l.Holding.Classes {
		all = append(all, x.Stamp.Since)
	}
	for _, x := range l.Entries {
		all = append(all, x.Created)
	}
	for _, x := range l.Hops {
		all = append(all, x.Created)
	}
	return all
}
