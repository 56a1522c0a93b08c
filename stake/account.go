package stake

import (
	"distraint/api"
	"distraint/bank"
	"distraint/roster"
	"distraint/stamp"
)

// Transfer sends an amount from an account to another one.
func (s *Stake) Transfer(from, to int, a uint64) api.Errno {
	return number(s.change(func(l *ledger) []step {
		return []step{func() error { return put(&l.Bank, "bank")(bank.Send(l.Bank, from, to, a)) }}
	}))
}

// Create makes an account the operator of a new validator, to which it delegates an amount; it tells the validator's number, and the shares.
func (s *Stake) Create(from int, minSelf, a uint64) (v int, shares uint64, err api.Errno) {
	refused := s.change(func(l *ledger) []step {
		return []step{
			func() error { return l.hasAccount(from) },
			func() (err error) { v, err = l.create(from, minSelf); return },
			func() error { return refuse(a < minSelf, api.ErrPoor) },
			func() (err error) { shares, err = l.bond(from, v, a); return },
		}
	})
	if refused != nil {
		return 0, 0, number(refused)
	}
	return v, shares, api.OK
}

// Delegate delegates an amount to a validator, and tells the shares.
func (s *Stake) Delegate(from, v int, a uint64) (uint64, api.Errno) {
	shares := uint64(0)
	refused := s.change(func(l *ledger) []step {
		return []step{
			func() error { return l.hasAccount(from) },
			func() error { return wrap("roster", roster.Refuse(l.Validators, v)) },
			func() (err error) { shares, err = l.bond(from, v, a); return },
		}
	})
	return told(shares, refused)
}

// Undelegate makes x shares of a class an entry, and tells its amount.
func (s *Stake) Undelegate(from int, t api.Stamp, x uint64) (uint64, api.Errno) {
	amount := uint64(0)
	refused := s.change(func(l *ledger) []step {
		return []step{
			func() (err error) { amount, err = l.leave(from, t, x); return },
			func() error { return l.enter(from, t, amount) },
			func() error { return l.move(api.PoolBonded, api.PoolUnbonding, amount) },
			func() error { return l.shortfall(from, t.Validator) },
		}
	})
	return told(amount, refused)
}

// Redelegate makes x shares of a class a lot that backs another validator from now on, and tells that lot.
func (s *Stake) Redelegate(from int, t api.Stamp, x uint64, to int) (api.Lot, api.Errno) {
	var lot api.Lot
	refused := s.change(func(l *ledger) []step {
		return []step{
			func() (err error) { lot.Amount, err = l.leave(from, t, x); return },
			func() error { return wrap("roster", roster.Refuse(l.Validators, to)) },
			func() error { return put(&lot.Stamp, "stamp")(stamp.Hop(t, to, l.Height)) },
			func() error { return l.unchained(t) },
			func() error { return l.hop(from, t.Validator, to) },
			func() (err error) { lot.Shares, err = l.join(from, lot.Stamp, lot.Amount); return },
			func() error { return l.shortfall(from, t.Validator) },
		}
	})
	return told(lot, refused)
}

// Unjail makes a validator idle that was jailed, if its operator asks for it and has enough in it.
func (s *Stake) Unjail(from, v int) api.Errno {
	short := false
	return number(s.change(func(l *ledger) []step {
		return []step{
			func() error { return put(&l.Validators, "roster")(roster.Unjail(l.Validators, v, from, l.Height)) },
			func() (err error) { short, err = l.isShort(v); return },
			func() error { return refuse(short, api.ErrPoor) },
		}
	}))
}
