package stake_test

import (
	"math"
	"math/rand/v2"
	"slices"

	"distraint/api"
	"distraint/params"
)

const (
	top    = 1 << 32             // the greatest height
	later  = 1<<32 + 1<<20       // the greatest height until which somebody is jailed
	supply = 1 << 62             // the greatest supply
	great  = math.MaxUint64      // the greatest amount
	all    = uint64(api.Billion) // all billionths
)

// bare is the stamp of a lot that backs v since h, and backed nobody before.
func bare(v, h int) api.Stamp { return api.Stamp{Validator: v, Since: h, Prior: -1} }

// hopped is the stamp of a lot that backs v since h, and backed prior from from on.
func hopped(v, h, prior, from int) api.Stamp {
	return api.Stamp{Validator: v, Since: h, Prior: prior, From: from}
}

func part(owner int, t api.Stamp, shares uint64) api.Position {
	return api.Position{Owner: owner, Stamp: t, Shares: shares}
}

func class(t api.Stamp, tokens, shares uint64) api.Class {
	return api.Class{Stamp: t, Pool: api.Pool{Tokens: tokens, Shares: shares}}
}

func entry(owner int, t api.Stamp, created int, initial, balance uint64) api.Entry {
	return api.Entry{Owner: owner, Stamp: t, Created: created, Initial: initial, Balance: balance}
}

func jump(owner, src, dst, created int) api.Hop {
	return api.Hop{Owner: owner, Src: src, Dst: dst, Created: created}
}

// short are params with which things come about quickly.
func short() api.Params {
	p := params.Default()
	p.Unbonding, p.MaxAge, p.JailTime, p.Entries, p.MaxActive = 5, 5, 7, 2, 2
	return p
}

// even tells x with the sums in its pools that they have to have.
func even(x api.Ledger) api.Ledger {
	x.Bank.Pools[api.PoolBonded], x.Bank.Pools[api.PoolUnbonding] = 0, 0
	for _, c := range x.Holding.Classes {
		x.Bank.Pools[api.PoolBonded] += c.Pool.Tokens
	}
	for _, e := range x.Entries {
		x.Bank.Pools[api.PoolUnbonding] += e.Balance
	}
	return x
}

// with tells a copy of x that is changed, and is even then.
func with(x api.Ledger, changes ...func(x *api.Ledger)) api.Ledger {
	return even(odd(x, changes...))
}

// odd tells a copy of x that is changed.
func odd(x api.Ledger, changes ...func(x *api.Ledger)) api.Ledger {
	x = copied(x)
	for _, change := range changes {
		change(&x)
	}
	return x
}

func copied(x api.Ledger) api.Ledger {
	x.Bank.Liquid = slices.Clone(x.Bank.Liquid)
	x.Holding.Classes, x.Holding.Positions = slices.Clone(x.Holding.Classes), slices.Clone(x.Holding.Positions)
	x.Entries, x.Hops, x.Validators = slices.Clone(x.Entries), slices.Clone(x.Hops), slices.Clone(x.Validators)
	return x
}

// bankOnly has accounts with these balances alone, at the first height.
func bankOnly(liquid ...uint64) api.Ledger {
	return api.Ledger{Params: short(), Height: 1, Bank: api.Bank{Liquid: liquid}}
}

// scene is at the height 20. It has the accounts 0 to 6 and the validators 0 to 5, of which 0 is active, 1 idle, 2 jailed until now, 3 tombstoned, 4 jailed for longer, and 5 active; the account i operates the validator i, and only the account 6, which operates none, has no lots.
func scene() api.Ledger {
	return even(api.Ledger{
		Params: short(),
		Height: 20,
		Bank:   api.Bank{Liquid: []uint64{100, 200, 300, 400, 500, 0, 50}, Pools: [4]uint64{0, 0, 70, 90}},
		Holding: api.Holding{
			Classes: []api.Class{
				class(bare(0, 1), 80, 80), class(hopped(0, 14, 1, 3), 6, 6), class(hopped(0, 15, 1, 3), 9, 10),
				class(bare(1, 3), 40, 50), class(hopped(1, 16, 0, 1), 10, 10), class(bare(1, 20), 7, 7),
				class(bare(2, 4), 33, 100), class(bare(3, 5), 1, 9), class(bare(4, 6), 5, 5), class(bare(5, 20), 30, 30),
			},
			Positions: []api.Position{
				part(0, bare(0, 1), 50), part(0, bare(1, 20), 7), part(1, hopped(0, 14, 1, 3), 6), part(1, hopped(0, 15, 1, 3), 10), part(1, bare(1, 3), 20),
				part(2, bare(0, 1), 30), part(2, bare(1, 3), 30), part(2, bare(2, 4), 100),
				part(3, hopped(1, 16, 0, 1), 10), part(3, bare(3, 5), 9), part(4, bare(4, 6), 5), part(5, bare(5, 20), 30),
			},
		},
		Entries: []api.Entry{
			entry(2, bare(0, 1), 16, 10, 10), entry(0, bare(0, 1), 18, 20, 15), entry(2, bare(3, 5), 18, 4, 0),
			entry(3, hopped(1, 16, 0, 1), 19, 12, 11), entry(2, bare(0, 1), 20, 10, 9),
		},
		Hops: []api.Hop{jump(1, 1, 0, 15), jump(3, 0, 1, 16), jump(2, 3, 1, 20), jump(2, 3, 1, 20)},
		Validators: []api.Validator{
			{Operator: 0, MinSelf: 20, Status: api.StatusActive},
			{Operator: 1, MinSelf: 5, Status: api.StatusIdle},
			{Operator: 2, MinSelf: 33, Status: api.StatusJailed, Until: 20},
			{Operator: 3, MinSelf: 1, Status: api.StatusTomb, Until: 12, Attest: true},
			{Operator: 4, MinSelf: 5, Status: api.StatusJailed, Until: 21, Propose: true},
			{Operator: 5, MinSelf: 30, Status: api.StatusActive, Until: 12, Propose: true},
		},
	})
}

// ordered puts what is in a holding in its order.
func ordered(h *api.Holding) {
	slices.SortFunc(h.Classes, func(a, b api.Class) int { return slices.Compare(numbers(a.Stamp), numbers(b.Stamp)) })
	slices.SortFunc(h.Positions, func(a, b api.Position) int {
		return slices.Compare(append([]int{a.Owner}, numbers(a.Stamp)...), append([]int{b.Owner}, numbers(b.Stamp)...))
	})
}

// numbers are those of a stamp, in the order in which stamps are compared.
func numbers(t api.Stamp) []int { return []int{t.Validator, t.Since, t.Prior, t.From} }

// lot adds a lot of one owner that is a class of its own.
func lot(owner int, t api.Stamp, tokens, shares uint64) func(x *api.Ledger) {
	return func(x *api.Ledger) {
		x.Holding.Classes = append(x.Holding.Classes, class(t, tokens, shares))
		x.Holding.Positions = append(x.Holding.Positions, part(owner, t, shares))
		ordered(&x.Holding)
	}
}

// at sets the height.
func at(h int) func(x *api.Ledger) { return func(x *api.Ledger) { x.Height = h } }

// liquid sets an account's balance.
func liquid(account int, a uint64) func(x *api.Ledger) {
	return func(x *api.Ledger) { x.Bank.Liquid[account] = a }
}

// validator changes a validator.
func validator(v int, change func(x *api.Validator)) func(x *api.Ledger) {
	return func(x *api.Ledger) { change(&x.Validators[v]) }
}

// fullOfClasses has as many classes as there may be, all of the account 1 and for the validator 0 since one height or another; it is at the height 2000.
func fullOfClasses() api.Ledger {
	x := bankOnly(1000, 1000, 1000)
	x.Height = 2000
	x.Validators = []api.Validator{{Operator: 0, MinSelf: 5, Status: api.StatusActive}, {Operator: 1, MinSelf: 1, Status: api.StatusIdle}}
	for i := range api.MaxClasses {
		x.Holding.Classes = append(x.Holding.Classes, class(bare(0, i+1), 5, 5))
		x.Holding.Positions = append(x.Holding.Positions, part(1, bare(0, i+1), 5))
	}
	return even(x)
}

// fullOfEntries has as many entries as there may be, all of the account 1.
func fullOfEntries() api.Ledger {
	x := scene()
	x.Entries = nil
	for range api.MaxQueue {
		x.Entries = append(x.Entries, entry(1, bare(0, 1), 19, 2, 1))
	}
	return even(x)
}

// fullOfHops has as many hops as there may be, all of the account 1.
func fullOfHops() api.Ledger {
	x := scene()
	x.Hops = nil
	for range api.MaxHops {
		x.Hops = append(x.Hops, jump(1, 1, 0, 19))
	}
	return x
}

// dear has two classes of a token that is worth 2^62 shares, so that two more can come and no third one.
func dear() api.Ledger {
	return with(scene(), lot(4, bare(2, 20), 1, 1<<62), lot(4, hopped(2, 20, 0, 1), 1, 1<<62))
}

// rich has as many tokens as there may be, the greatest part of it with the account 4.
func rich() api.Ledger {
	x := scene()
	rest := uint64(supply)
	for _, n := range slices.Concat(x.Bank.Liquid, x.Bank.Pools[:]) {
		rest -= n
	}
	x.Bank.Liquid[4] += rest
	return x
}

// crowd has as many accounts and validators as there may be.
func crowd() api.Ledger {
	x := bankOnly()
	x.Height = 7
	for i := range api.MaxAccounts {
		x.Bank.Liquid = append(x.Bank.Liquid, uint64(i)*100)
	}
	for v := range api.MaxValidators {
		x.Validators = append(x.Validators, api.Validator{Operator: 63 - v, MinSelf: uint64(1 + v), Status: api.StatusIdle})
		lot(63-v, bare(v, 1+v%7), uint64(10+v*7%5), uint64(20+v))(&x)
	}
	return even(x)
}

// valids are ledgers: small ones, and ones at the bounds.
func valids() []api.Ledger {
	last := with(scene(), at(top), lot(4, bare(1, top), 3, 3))
	return []api.Ledger{
		bankOnly(0), bankOnly(1, 2), bankOnly(supply), bankOnly(make([]uint64, 64)...),
		scene(), with(scene(), at(21)), with(scene(), at(25)), last, dear(), rich(), crowd(),
	}
}

// source draws the same numbers in every run.
func source(seed uint64) *rand.Rand { return rand.New(rand.NewPCG(seed, 18)) }
