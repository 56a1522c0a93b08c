package stake_test

import (
	"math"
	"slices"
	"testing"

	"distraint/api"
	"distraint/holding"
	"distraint/stake"
)

// check: Check tells this of a ledger, and so does the model; Load tells the same; the ledger stays as it is, and what is behind its lists.
func check(t *testing.T, name string, x api.Ledger, want api.Errno) {
	t.Helper()
	if err := checked(x); err != want {
		t.Errorf("%s: the model: %v; want %v", name, err, want)
	}
	mine := roomy(x)
	if err := stake.Check(mine); err != want {
		t.Errorf("%s: Check(%s): %v; want %v", name, brief(x), err, want)
	}
	s, err := stake.Load(mine)
	if err != want || (s != nil) != (want == api.OK) {
		t.Errorf("%s: Load(%s): %v; want %v", name, brief(x), err, want)
	}
	if !same(entire(mine), entire(roomy(x))) {
		t.Errorf("%s: Check or Load changed %s, or what is behind it", name, brief(x))
	}
	spoil(mine)
	if want == api.OK {
		saved(t, name, s, x)
	}
}

// TestCheckValid: P18.1: ledgers that are valid, at their bounds too: each is saved as it was loaded.
func TestCheckValid(t *testing.T) {
	for _, x := range append(valids(), fullOfClasses(), fullOfEntries(), fullOfHops()) {
		check(t, "valid", x, api.OK)
	}
}

// flaw is what is wrong with a ledger: in which place of the order of the errors, and what the error is.
type flaw struct {
	name   string
	place  int
	err    api.Errno
	change func(x *api.Ledger)
}

// flaws are all errors that may be told of a ledger like scene; those of the accounts, of the validators and of the heights leave it even.
func flaws() []flaw {
	return slices.Concat(plainFlaws(), holdingFlaws(), listFlaws(), ownFlaws())
}

func plainFlaws() []flaw {
	return []flaw{
		{"no epochs", 0, api.ErrRange, func(x *api.Ledger) { x.Params.EpochLen = 0 }},
		{"too many active", 0, api.ErrRange, func(x *api.Ledger) { x.Params.MaxActive = 33 }},
		{"too old", 0, api.ErrOrder, func(x *api.Ledger) { x.Params.MaxAge = x.Params.Unbonding + 1 }},
		{"no height", 1, api.ErrRange, at(0)},
		{"too high", 1, api.ErrRange, at(top + 1)},
		{"no account", 2, api.ErrRange, func(x *api.Ledger) { x.Bank.Liquid = nil }},
		{"too many accounts", 2, api.ErrLong, func(x *api.Ledger) { x.Bank.Liquid = make([]uint64, 65) }},
		{"too much burned", 2, api.ErrOver, func(x *api.Ledger) { x.Bank.Pools[api.PoolBurned] = supply }},
	}
}

func holdingFlaws() []flaw {
	classes := func(change func(l []api.Class)) func(x *api.Ledger) {
		return func(x *api.Ledger) { change(x.Holding.Classes) }
	}
	return []flaw{
		{"too many classes", 3, api.ErrLong, func(x *api.Ledger) { x.Holding.Classes = make([]api.Class, 1025) }},
		{"no stamp", 3, api.ErrRange, classes(func(l []api.Class) { l[0].Stamp.Since = 0 })},
		{"classes out of order", 3, api.ErrOrder, classes(func(l []api.Class) { l[0], l[1] = l[1], l[0] })},
		{"more tokens than shares", 3, api.ErrOrder, classes(func(l []api.Class) { l[0].Pool.Tokens = 81 })},
		{"too many tokens", 3, api.ErrOver, classes(func(l []api.Class) { l[0].Pool = api.Pool{Tokens: supply, Shares: supply} })},
		{"empty class", 3, api.ErrState, classes(func(l []api.Class) { l[0].Pool = api.Pool{} })},
		{"shares of nothing", 3, api.ErrState, classes(func(l []api.Class) { l[0].Pool.Tokens = 0 })},
		{"shares missing", 3, api.ErrState, classes(func(l []api.Class) { l[0].Pool.Shares++ })},
		{"no owner", 3, api.ErrRange, func(x *api.Ledger) { x.Holding.Positions[0].Owner = -1 }},
		{"no shares", 3, api.ErrDust, func(x *api.Ledger) { x.Holding.Positions[0].Shares = 0 }},
		{"no class", 3, api.ErrUnknown, func(x *api.Ledger) {
			x.Holding.Positions[0].Stamp.Validator = 0
			x.Holding.Positions[0].Stamp.Since = 2
		}},
	}
}

func listFlaws() []flaw {
	first := func(change func(e *api.Entry)) func(x *api.Ledger) {
		return func(x *api.Ledger) { change(&x.Entries[0]) }
	}
	return []flaw{
		{"too many entries", 4, api.ErrLong, func(x *api.Ledger) { x.Entries = make([]api.Entry, 32769) }},
		{"no owner of an entry", 4, api.ErrRange, first(func(e *api.Entry) { e.Owner = 64 })},
		{"an entry ahead of its stamp", 4, api.ErrOrder, first(func(e *api.Entry) { e.Stamp.Since = 17 })},
		{"entries out of order", 4, api.ErrOrder, first(func(e *api.Entry) { e.Created = 19 })},
		{"an entry of nothing", 4, api.ErrDust, first(func(e *api.Entry) { e.Initial, e.Balance = 0, 0 })},
		{"more than it was", 4, api.ErrState, first(func(e *api.Entry) { e.Balance = 11 })},
		{"entries of too much", 4, api.ErrOver, first(func(e *api.Entry) { e.Initial, e.Balance = supply, supply })},
		{"too many hops", 5, api.ErrLong, func(x *api.Ledger) { x.Hops = make([]api.Hop, 4097) }},
		{"no hop", 5, api.ErrRange, func(x *api.Ledger) { x.Hops[0].Dst = x.Hops[0].Src }},
		{"hops out of order", 5, api.ErrOrder, func(x *api.Ledger) { x.Hops[0].Created = 17 }},
		{"too many validators", 6, api.ErrLong, func(x *api.Ledger) { x.Validators = make([]api.Validator, 33) }},
		{"no status", 6, api.ErrRange, validator(0, func(x *api.Validator) { x.Status = 0 })},
		{"no minimum", 6, api.ErrArg, validator(0, func(x *api.Validator) { x.MinSelf = 0 })},
		{"an operator twice", 6, api.ErrDouble, validator(1, func(x *api.Validator) { x.Operator = 0 })},
		{"jailed for ever", 6, api.ErrState, validator(0, func(x *api.Validator) { x.Status = api.StatusJailed })},
	}
}

// ownFlaws are those that no layer below tells.
func ownFlaws() []flaw {
	evenly := func(change func(x *api.Ledger)) func(x *api.Ledger) {
		return func(x *api.Ledger) { change(x); *x = even(*x) }
	}
	return []flaw{
		{"another's position", 7, api.ErrUnknown, func(x *api.Ledger) { x.Holding.Positions[len(x.Holding.Positions)-1].Owner = 7 }},
		{"another's entry", 7, api.ErrUnknown, func(x *api.Ledger) { x.Entries[len(x.Entries)-1].Owner = 7 }},
		{"another's hop", 7, api.ErrUnknown, func(x *api.Ledger) { x.Hops[len(x.Hops)-1].Owner = 7 }},
		{"another's validator", 7, api.ErrUnknown, validator(5, func(x *api.Validator) { x.Operator = 7 })},
		{"another's class", 8, api.ErrUnknown, evenly(lot(5, bare(6, 1), 4, 4))},
		{"another's past", 8, api.ErrUnknown, evenly(lot(5, hopped(5, 20, 6, 1), 4, 4))},
		{"an entry of another", 8, api.ErrUnknown, func(x *api.Ledger) { x.Entries[len(x.Entries)-1].Stamp.Validator = 6 }},
		{"an entry of another's past", 8, api.ErrUnknown, func(x *api.Ledger) { x.Entries[len(x.Entries)-1].Stamp = hopped(1, 16, 6, 1) }},
		{"a hop from another", 8, api.ErrUnknown, func(x *api.Ledger) { x.Hops[len(x.Hops)-1].Src = 6 }},
		{"a hop to another", 8, api.ErrUnknown, func(x *api.Ledger) { x.Hops[len(x.Hops)-1].Dst = 6 }},
		{"a lot to come", 9, api.ErrAhead, evenly(lot(5, bare(5, 21), 4, 4))},
		{"an entry to come", 9, api.ErrAhead, func(x *api.Ledger) { x.Entries[len(x.Entries)-1].Created = 21 }},
		{"a hop to come", 9, api.ErrAhead, func(x *api.Ledger) { x.Hops[len(x.Hops)-1].Created = 21 }},
		{"more bonded", 10, api.ErrState, func(x *api.Ledger) { x.Bank.Pools[api.PoolBonded]++ }},
		{"more unbonding", 10, api.ErrState, func(x *api.Ledger) { x.Bank.Pools[api.PoolUnbonding]++ }},
	}
}

// TestCheckEach: P18.1: each error that may be told, alone.
func TestCheckEach(t *testing.T) {
	for _, f := range flaws() {
		check(t, f.name, odd(scene(), f.change), f.err)
	}
}

// TestCheckOrder: P18.1: any two errors together: the earlier one is told.
func TestCheckOrder(t *testing.T) {
	for _, one := range flaws() {
		for _, other := range flaws() {
			if one.place < other.place {
				check(t, one.name+" and "+other.name, odd(scene(), other.change, one.change), one.err)
			}
		}
	}
}

// TestCheckHeights: P18.1: heights at their bounds and beyond.
func TestCheckHeights(t *testing.T) {
	for _, h := range []int{math.MinInt, -top, -1, 0, top + 1, 2 * top, math.MaxInt} {
		check(t, "height", odd(bankOnly(5), at(h)), api.ErrRange)
		check(t, "height", odd(scene(), at(h)), api.ErrRange)
	}
	for _, h := range []int{1, 2, 20, top - 1, top} {
		check(t, "height", odd(bankOnly(5), at(h)), api.OK)
	}
	for h := 1; h < 23; h++ {
		want := api.OK
		if h < 20 {
			want = api.ErrAhead
		}
		check(t, "height", odd(scene(), at(h)), want)
	}
	check(t, "height", odd(scene(), at(top)), api.OK)
}

// TestCheckPools: P18.1: each of the two sums one too small and one too great, also where the other one makes up for it; and pools of nothing. What is burned or kept has no sum.
func TestCheckPools(t *testing.T) {
	for _, x := range []api.Ledger{scene(), rich(), crowd(), dear(), bankOnly(7), odd(bankOnly(0), at(top))} {
		if x.Bank.Liquid[0] > 0 {
			for _, pool := range []int{api.PoolBonded, api.PoolUnbonding} {
				check(t, "one more", odd(x, func(x *api.Ledger) { x.Bank.Liquid[0]--; x.Bank.Pools[pool]++ }), api.ErrState)
			}
		}
		for _, pool := range []int{api.PoolBonded, api.PoolUnbonding} {
			if x.Bank.Pools[pool] > 0 {
				for other := range x.Bank.Pools {
					if other != pool {
						check(t, "one less", odd(x, func(x *api.Ledger) { x.Bank.Pools[pool]--; x.Bank.Pools[other]++ }), api.ErrState)
					}
				}
				check(t, "one less", odd(x, func(x *api.Ledger) { x.Bank.Pools[pool]-- }), api.ErrState)
				check(t, "nothing", odd(x, func(x *api.Ledger) { x.Bank.Pools[pool] = 0 }), api.ErrState)
			}
		}
		check(t, "all burned", odd(x, func(x *api.Ledger) { x.Bank.Liquid[0], x.Bank.Pools[2] = 0, x.Bank.Pools[2]+x.Bank.Liquid[0] }), api.OK)
		check(t, "all kept", odd(x, func(x *api.Ledger) { x.Bank.Liquid[0], x.Bank.Pools[3] = 0, x.Bank.Pools[3]+x.Bank.Liquid[0] }), api.OK)
	}
}

// roomier is scene at the height 30, with an account 7 and a validator 6, which nothing else names.
func roomier() api.Ledger {
	return with(scene(), at(30), func(x *api.Ledger) {
		x.Bank.Liquid = append(x.Bank.Liquid, 9)
		x.Validators = append(x.Validators, api.Validator{Operator: 6, MinSelf: 1, Status: api.StatusIdle})
	})
}

// TestCheckAccounts: P18.1: each place where an account is named, with the last one, one beyond it, and numbers that are none of any bank.
func TestCheckAccounts(t *testing.T) {
	x := roomier()
	for n, want := range map[int]api.Errno{math.MinInt: api.ErrRange, -1: api.ErrRange, 7: api.OK, 8: api.ErrUnknown, 9: api.ErrUnknown, 63: api.ErrUnknown, 64: api.ErrRange, math.MaxInt: api.ErrRange} {
		for i := range x.Holding.Positions {
			check(t, "position", odd(x, func(x *api.Ledger) { x.Holding.Positions[i].Owner = n; ordered(&x.Holding) }), want)
		}
		for i := range x.Entries {
			check(t, "entry", odd(x, func(x *api.Ledger) { x.Entries[i].Owner = n }), want)
		}
		for i := range x.Hops {
			check(t, "hop", odd(x, func(x *api.Ledger) { x.Hops[i].Owner = n }), want)
		}
		for i := range x.Validators {
			check(t, "validator", odd(x, validator(i, func(x *api.Validator) { x.Operator = n })), want)
		}
	}
	check(t, "one account", with(x, func(x *api.Ledger) { x.Bank.Liquid = x.Bank.Liquid[:1] }), api.ErrUnknown)
}

// stamped changes the stamp of class i, and that of its positions.
func stamped(i int, change func(s *api.Stamp)) func(x *api.Ledger) {
	return func(x *api.Ledger) {
		was := x.Holding.Classes[i].Stamp
		change(&x.Holding.Classes[i].Stamp)
		for k := range x.Holding.Positions {
			if x.Holding.Positions[k].Stamp == was {
				change(&x.Holding.Positions[k].Stamp)
			}
		}
		ordered(&x.Holding)
	}
}

// prior makes a stamp one of a lot that backed n before, or nobody.
func prior(n int) func(s *api.Stamp) {
	return func(s *api.Stamp) {
		s.Prior, s.From = n, 1
		if n == -1 {
			s.From = 0
		}
	}
}

// TestCheckValidators: P18.1: each place where a validator is named, with the last one, one beyond it, and numbers that are none of any roster; of these, -1 is allowed for a Prior.
func TestCheckValidators(t *testing.T) {
	x := roomier()
	for n, want := range map[int]api.Errno{math.MinInt: api.ErrRange, -2: api.ErrRange, -1: api.ErrRange, 6: api.OK, 7: api.ErrUnknown, 8: api.ErrUnknown, 31: api.ErrUnknown, 32: api.ErrRange, math.MaxInt: api.ErrRange} {
		before := want
		if n == -1 {
			before = api.OK
		}
		for i := range x.Holding.Classes {
			check(t, "class", odd(x, stamped(i, func(s *api.Stamp) { s.Validator = n })), want)
			past := odd(x, stamped(i, prior(n)))
			if err := holding.Check(past.Holding); (err == api.OK) != (before != api.ErrRange) {
				t.Errorf("%d: %v", n, err)
			}
			check(t, "class's past", past, before)
		}
		for i := range x.Entries {
			check(t, "entry", odd(x, func(x *api.Ledger) { x.Entries[i].Stamp.Validator = n }), want)
			check(t, "entry's past", odd(x, func(x *api.Ledger) { prior(n)(&x.Entries[i].Stamp) }), before)
		}
		for i := range x.Hops {
			check(t, "source", odd(x, func(x *api.Ledger) { x.Hops[i].Src = n }), want)
			check(t, "destination", odd(x, func(x *api.Ledger) { x.Hops[i].Dst = n }), want)
		}
	}
	check(t, "a past from nowhere", odd(x, stamped(0, func(s *api.Stamp) { s.From = 1 })), api.ErrRange)
}

// TestCheckNoValidators: P18.1: without validators nothing may name one.
func TestCheckNoValidators(t *testing.T) {
	check(t, "nothing", bankOnly(9, 9), api.OK)
	check(t, "a class", with(bankOnly(9, 9), lot(1, bare(0, 1), 1, 1)), api.ErrUnknown)
	check(t, "an entry", with(bankOnly(9, 9), func(x *api.Ledger) { x.Entries = []api.Entry{entry(0, bare(0, 1), 1, 1, 0)} }), api.ErrUnknown)
	check(t, "a hop", with(bankOnly(9, 9), func(x *api.Ledger) { x.Hops = []api.Hop{jump(0, 0, 1, 1)} }), api.ErrUnknown)
}

// TestCheckAhead: P18.1: each Since and each Created at the height, one below it, and one above it.
func TestCheckAhead(t *testing.T) {
	for _, height := range []int{30, 1000, top - 1} {
		x := odd(roomier(), at(height))
		for h, want := range map[int]api.Errno{height - 1: api.OK, height: api.OK, height + 1: api.ErrAhead} {
			for i := range x.Holding.Classes {
				check(t, "class", odd(x, stamped(i, func(s *api.Stamp) { s.Since = h })), want)
			}
			for i := range x.Entries {
				check(t, "entries", odd(x, func(x *api.Ledger) {
					for k := range x.Entries[i:] {
						x.Entries[i+k].Created = h
					}
				}), want)
			}
			check(t, "entry's stamp", odd(x, func(x *api.Ledger) {
				last := &x.Entries[len(x.Entries)-1]
				last.Created, last.Stamp.Since = h, h
			}), want)
			for i := range x.Hops {
				check(t, "hops", odd(x, func(x *api.Ledger) {
					for k := range x.Hops[i:] {
						x.Hops[i+k].Created = h
					}
				}), want)
			}
		}
	}
	check(t, "at the top", with(scene(), at(top), lot(1, bare(5, top), 3, 3)), api.OK)
	check(t, "behind the top", with(scene(), at(top), lot(1, bare(5, top+1), 3, 3)), api.ErrRange)
}

// TestCheckDrawn: P18.1: drawn ledgers, and ones of which one or two numbers are changed, by the chapter's words.
func TestCheckDrawn(t *testing.T) {
	r := source(1)
	count := map[api.Errno]int{}
	for range 20000 {
		x := drawn(r)
		check(t, "drawn", x, api.OK)
		for range 1 + r.IntN(2) {
			x = odd(x, spoilt(r))
		}
		if r.IntN(3) > 0 {
			x = even(x)
		}
		want := checked(x)
		count[want]++
		check(t, "spoilt", x, want)
	}
	for _, err := range []api.Errno{api.OK, api.ErrArg, api.ErrRange, api.ErrOrder, api.ErrUnknown, api.ErrState, api.ErrAhead, api.ErrDust, api.ErrOver, api.ErrDouble} {
		if count[err] < 10 {
			t.Errorf("%v: only %d", err, count[err])
		}
	}
}
