package stake

import (
	"slices"

	"distraint/api"
	"distraint/bank"
	"distraint/holding"
	"distraint/hop"
	"distraint/period"
	"distraint/queue"
	"distraint/roster"
	"distraint/stamp"
)

// nobody is the Prior of a lot that has backed one validator alone.
const nobody = -1

// A ledger is api's. A step replaces a part of it by what that part's layer tells, and leaves the memory of the old part as it is: so a copy by value goes on by itself.
type ledger api.Ledger

// clone tells the same ledger in memory of its own.
func (l ledger) clone() ledger {
	l.Bank.Liquid = slices.Clone(l.Bank.Liquid)
	l.Holding.Classes = slices.Clone(l.Holding.Classes)
	l.Holding.Positions = slices.Clone(l.Holding.Positions)
	l.Entries = slices.Clone(l.Entries)
	l.Hops = slices.Clone(l.Hops)
	l.Validators = slices.Clone(l.Validators)
	return l
}

// put tells a func that gets what a layer tells of a part, and puts that there unless it is an error.
func put[T any](part *T, layer string) func(after T, err api.Errno) error {
	return func(after T, err api.Errno) error {
		if err == api.OK {
			*part = after
		}
		return wrap(layer, err)
	}
}

func (l *ledger) hasAccount(n int) error {
	_, err := bank.Have(l.Bank, n)
	return wrap("bank", err)
}

func (l *ledger) hasValidator(v int) error {
	return refuse(v < 0 || v >= len(l.Validators), api.ErrUnknown)
}

// tokens tells how many tokens back each validator: that is holding.Tokens of each one, but that would check the whole holding anew for each.
func (l *ledger) tokens() []uint64 {
	each := make([]uint64, len(l.Validators))
	for _, x := range l.Holding.Classes {
		each[x.Stamp.Validator] += x.Pool.Tokens
	}
	return each
}

// own tells the own stake of a validator.
func (l *ledger) own(v int) (own uint64, err error) {
	err = run([]step{
		func() error { return l.hasValidator(v) },
		func() error { return put(&own, "holding")(holding.Own(l.Holding, l.Validators[v].Operator, v)) },
	})
	return own, err
}

// isShort tells whether the own stake of a validator is less than its MinSelf.
func (l *ledger) isShort(v int) (bool, error) {
	own, err := l.own(v)
	return err == nil && own < l.Validators[v].MinSelf, err
}

// until tells until when whoever is jailed now is jailed.
func (l *ledger) until() (n int, err error) {
	err = put(&n, "period")(period.Until(l.Params, l.Height))
	return n, err
}

// create puts a validator behind the others, and tells its number.
func (l *ledger) create(operator int, minSelf uint64) (int, error) {
	after, v, err := roster.Create(l.Validators, operator, minSelf)
	return v, put(&l.Validators, "roster")(after, err)
}

// bond takes an amount from an account as a lot that backs a validator from now on, and tells its shares.
func (l *ledger) bond(from, v int, a uint64) (shares uint64, err error) {
	var lot api.Stamp
	err = run([]step{
		func() error { return put(&l.Bank, "bank")(bank.Take(l.Bank, from, api.PoolBonded, a)) },
		func() error { return put(&lot, "stamp")(stamp.New(v, l.Height)) },
		func() (err error) { shares, err = l.join(from, lot, a); return },
	})
	return shares, err
}

// join gives an owner an amount more in a class, and tells its shares.
func (l *ledger) join(owner int, t api.Stamp, a uint64) (uint64, error) {
	after, shares, err := holding.Join(l.Holding, owner, t, a)
	return shares, put(&l.Holding, "holding")(after, err)
}

// leave takes shares of an owner out of a class, and tells their amount.
func (l *ledger) leave(owner int, t api.Stamp, x uint64) (uint64, error) {
	after, amount, err := holding.Leave(l.Holding, owner, t, x)
	return amount, put(&l.Holding, "holding")(after, err)
}

// enter puts an amount that an owner takes back behind the entries.
func (l *ledger) enter(owner int, t api.Stamp, a uint64) error {
	x := api.Entry{Owner: owner, Stamp: t, Created: l.Height, Initial: a, Balance: a}
	return put(&l.Entries, "queue")(queue.Add(l.Entries, x, l.Params.Entries))
}

// hop puts a redelegation behind the hops.
func (l *ledger) hop(owner, from, to int) error {
	x := api.Hop{Owner: owner, Src: from, Dst: to, Created: l.Height}
	return put(&l.Hops, "hop")(hop.Add(l.Hops, x, l.Params.Entries))
}

// unchained tells ErrChain of a lot that can still be punished for whom it backed before: it may not move again.
func (l *ledger) unchained(t api.Stamp) error {
	alive := false
	return run([]step{
		func() error { return put(&alive, "period")(period.Alive(l.Params, t.Since, l.Height)) },
		func() error { return refuse(alive && t.Prior != nobody, api.ErrChain) },
	})
}

func (l *ledger) move(from, to int, a uint64) error {
	return put(&l.Bank, "bank")(bank.Move(l.Bank, from, to, a))
}

func (l *ledger) pay(pool, to int, a uint64) error {
	return put(&l.Bank, "bank")(bank.Pay(l.Bank, pool, to, a))
}

// shortfall jails a validator that its operator has just taken something out of, if it is free and has too little of its own now.
func (l *ledger) shortfall(from, v int) error {
	if from != l.Validators[v].Operator || !roster.Free(l.Validators)[v] {
		return nil
	}
	short, err := l.isShort(v)
	if err != nil || !short {
		return err
	}
	return l.jail(v)
}

func (l *ledger) jail(v int) error {
	until := 0
	return run([]step{
		func() (err error) { until, err = l.until(); return },
		func() error { return put(&l.Validators, "roster")(roster.Jail(l.Validators, v, until)) },
	})
}
