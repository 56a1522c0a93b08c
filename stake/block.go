package stake

import (
	"distraint/active"
	"distraint/api"
	"distraint/holding"
	"distraint/hop"
	"distraint/queue"
	"distraint/roster"
)

// Tick ends a block: it pays the entries that are mature, forgets the hops that are, and chooses who is active; it tells all of this.
func (s *Stake) Tick() (api.Tock, api.Errno) {
	var tock api.Tock
	refused := s.change(func(l *ledger) []step {
		return []step{
			func() error { return refuse(l.Height == api.MaxHeight, api.ErrRange) },
			func() (err error) { tock.Paid, err = l.payEntries(); return },
			func() (err error) { tock.Hops, err = l.dropHops(); return },
			func() (err error) { tock.In, tock.Out, err = l.choose(); return },
			func() error { tock.Height = l.Height; l.Height++; return nil },
		}
	})
	return told(tock, refused)
}

// payEntries takes the entries that are mature out, and pays what is left of each to its owner.
func (l *ledger) payEntries() ([]api.Entry, error) {
	ripe, left, err := queue.Ripe(l.Entries, l.Height, l.Params.Unbonding)
	steps := []step{func() error { return put(&l.Entries, "queue")(left, err) }}
	for _, x := range ripe {
		steps = append(steps, func() error { return l.pay(api.PoolUnbonding, x.Owner, x.Balance) })
	}
	return ripe, run(steps)
}

// dropHops takes the hops that are mature out.
func (l *ledger) dropHops() ([]api.Hop, error) {
	ripe, left, err := hop.Ripe(l.Hops, l.Height, l.Params.Unbonding)
	return ripe, put(&l.Hops, "hop")(left, err)
}

// choose makes the richest of the free validators active, and tells who comes in and who goes out.
func (l *ledger) choose() (in, out []int, err error) {
	was := roster.Active(l.Validators)
	is := active.Choose(l.tokens(), roster.Free(l.Validators), l.Params.MaxActive)
	in, out = active.Diff(was, is)
	return in, out, put(&l.Validators, "roster")(roster.Choose(l.Validators, is))
}

// Cut takes so many billionths of whatever backed a validator at a height, keeps so many billionths of that, and burns the rest; it tells all of this.
func (s *Stake) Cut(v, h int, ppb, keep uint64) (api.Toll, api.Errno) {
	var toll api.Toll
	refused := s.change(func(l *ledger) []step {
		return []step{
			func() error { return l.hasValidator(v) },
			func() error { return refuse(!isHeight(h) || ppb > api.Billion || keep > api.Billion, api.ErrRange) },
			func() (err error) { toll.Classes, toll.Bonded, err = l.cutClasses(v, h, ppb); return },
			func() (err error) { toll.Entries, toll.Unbonding, err = l.cutEntries(v, h, ppb); return },
			func() error { return l.divide(&toll, keep) },
		}
	})
	return told(toll, refused)
}

func (l *ledger) cutClasses(v, h int, ppb uint64) ([]api.Loss, uint64, error) {
	after, losses, sum, err := holding.Cut(l.Holding, v, h, ppb)
	return losses, sum, put(&l.Holding, "holding")(after, err)
}

func (l *ledger) cutEntries(v, h int, ppb uint64) ([]api.Shave, uint64, error) {
	after, shaves, sum, err := queue.Cut(l.Entries, v, h, ppb)
	return shaves, sum, put(&l.Entries, "queue")(after, err)
}

// divide takes what was cut out of its pools, and divides it into what is kept and what is burned.
func (l *ledger) divide(toll *api.Toll, keep uint64) error {
	all := toll.Bonded + toll.Unbonding
	toll.Kept = part(all, keep)
	toll.Burned = all - toll.Kept
	return run([]step{
		func() error { return l.move(api.PoolBonded, api.PoolReward, toll.Bonded) },
		func() error { return l.move(api.PoolUnbonding, api.PoolReward, toll.Unbonding) },
		func() error { return l.move(api.PoolReward, api.PoolBurned, toll.Burned) },
	})
}

// part tells ppb billionths of n, rounded down. As ppb is at most all billionths, neither product is more than 64 bits have.
func part(n, ppb uint64) uint64 {
	return n/api.Billion*ppb + n%api.Billion*ppb/api.Billion
}

// Punish jails or tombstones a validator that is punished for a class.
func (s *Stake) Punish(v, class int) api.Errno {
	until := 0
	return number(s.change(func(l *ledger) []step {
		return []step{
			func() (err error) { until, err = l.until(); return },
			func() error { return put(&l.Validators, "roster")(roster.Punish(l.Validators, v, class, until)) },
		}
	}))
}

// Grant pays an amount of what was kept to an account.
func (s *Stake) Grant(account int, a uint64) api.Errno {
	return number(s.change(func(l *ledger) []step {
		return []step{func() error { return l.pay(api.PoolReward, account, a) }}
	}))
}
