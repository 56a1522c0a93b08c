package bank_test

import (
	"math"
	"slices"
	"testing"

	"distraint/api"
	"distraint/bank"
)

// request is one of the five transfers: between which kinds of places it goes (true: pools).
type request struct {
	name             string
	fromPool, toPool bool
	ask              func(b api.Bank, from, to int, n uint64) (api.Bank, api.Errno)
}

const burned = 2

func requests() []request {
	return []request{
		{"Send", false, false, bank.Send},
		{"Pay", true, false, bank.Pay},
		{"Take", false, true, bank.Take},
		{"Move", true, true, bank.Move},
		{"Burn", true, true, func(b api.Bank, from, to int, n uint64) (api.Bank, api.Errno) { return bank.Burn(b, from, n) }},
	}
}

// cell tells where a place is in b, or the error of none.
func cell(b *api.Bank, isPool bool, at int) (*uint64, api.Errno) {
	if isPool {
		if at < 0 || at > 3 {
			return nil, api.ErrRange
		}
		return &b.Pools[at], api.OK
	}
	if at < 0 || at >= len(b.Liquid) {
		return nil, api.ErrUnknown
	}
	return &b.Liquid[at], api.OK
}

// want is what the chapter's words say of a transfer.
func (r request) want(b api.Bank, from, to int, n uint64) (api.Bank, api.Errno) {
	b = copied(b)
	if r.name == "Burn" {
		to = burned
	}
	if err := checked(b); err != api.OK {
		return api.Bank{}, err
	}
	source, err := cell(&b, r.fromPool, from)
	if err != api.OK {
		return api.Bank{}, err
	}
	destination, err := cell(&b, r.toPool, to)
	if err != api.OK {
		return api.Bank{}, err
	}
	if r.fromPool == r.toPool && from == to || r.fromPool && from == burned || r.name == "Send" && n == 0 {
		return api.Bank{}, api.ErrArg
	}
	if *source < n {
		return api.Bank{}, api.ErrPoor
	}
	*source -= n
	*destination += n
	return b, api.OK
}

// gives: a transfer gives this, twice, in memory of its own, and b stays as it is.
func (r request) gives(t *testing.T, b api.Bank, from, to int, n uint64, want api.Bank, err api.Errno) {
	t.Helper()
	before := copied(b)
	for range 2 {
		is, e := r.ask(b, from, to, n)
		if !same(is, want) || e != err {
			t.Fatalf("%s(%v, %d, %d, %d): %v, %v; want %v, %v", r.name, b, from, to, n, is, e, want, err)
		}
		untouched(t, r.name, b, before)
		apart(t, r.name, is, b)
	}
}

// givesTrue: a transfer gives what the chapter's words say.
func (r request) givesTrue(t *testing.T, b api.Bank, from, to int, n uint64) {
	t.Helper()
	want, err := r.want(b, from, to, n)
	r.gives(t, b, from, to, n, want, err)
}

// amounts tells amounts around what the source has, if there is one.
func (r request) amounts(b api.Bank, from int) []uint64 {
	l := []uint64{0, 1, 2, most, most + 1, 1 << 63, m - 1, m}
	if has, err := cell(&b, r.fromPool, from); err == api.OK {
		l = append(l, *has-1, *has, *has+1, *has/2)
	}
	return l
}

// TestTransfers: P9.2 and P9.4: each transfer between all places of each bank, and with places that it does not have; around what the source has.
func TestTransfers(t *testing.T) {
	for _, b := range valids() {
		for _, r := range requests() {
			for _, from := range numbers(len(b.Liquid)) {
				for _, to := range numbers(len(b.Liquid)) {
					for _, n := range r.amounts(copied(b), from) {
						r.givesTrue(t, b, from, to, n)
					}
				}
			}
		}
	}
}

// TestAllPlaces: P9.2: each transfer between all pairs of places of a bank of 64 accounts, in which no two places have the same.
func TestAllPlaces(t *testing.T) {
	b := of(make([]uint64, 64), 1000, 2000, 3000, 4000)
	for i := range b.Liquid {
		b.Liquid[i] = uint64(100 + 3*i)
	}
	for _, r := range requests() {
		for from := -1; from < 66; from++ {
			for to := -1; to < 66; to++ {
				r.givesTrue(t, b, from, to, 50)
				r.givesTrue(t, b, from, to, 5000)
				r.givesTrue(t, b, from, to, 0)
			}
		}
	}
}

// TestWrongBanks: P9.2: of a bank that is not valid, that is told ahead of all else, whatever the places and the amount are.
func TestWrongBanks(t *testing.T) {
	for err, l := range wrongs() {
		for _, b := range l {
			for _, r := range requests() {
				for _, from := range numbers(len(b.Liquid)) {
					for _, to := range numbers(len(b.Liquid)) {
						for _, n := range []uint64{0, 1, m} {
							r.gives(t, b, from, to, n, api.Bank{}, err)
						}
					}
				}
			}
		}
	}
}

// TestWrongPlaces: P9.2, written out: the source's error is told ahead of the destination's, and both ahead of the amount's.
func TestWrongPlaces(t *testing.T) {
	b := of([]uint64{70, 50}, 30, 20, 10, 5)
	accounts := []int{math.MinInt, -1, 2, 3, 64, math.MaxInt}
	pools := []int{math.MinInt, -1, 4, 5, 64, math.MaxInt}
	for _, r := range requests() {
		sources, destinations := accounts, accounts
		first, second := api.ErrUnknown, api.ErrUnknown
		if r.fromPool {
			sources, first = pools, api.ErrRange
		}
		if r.toPool {
			destinations, second = pools, api.ErrRange
		}
		for _, n := range []uint64{0, 1, 71, m} {
			for _, from := range sources {
				for _, to := range append([]int{0, 1, burned}, destinations...) {
					r.gives(t, b, from, to, n, api.Bank{}, first)
				}
			}
			if r.name == "Burn" {
				continue // where it goes is there
			}
			for _, to := range destinations {
				for _, from := range []int{0, 1} {
					r.gives(t, b, from, to, n, api.Bank{}, second)
				}
				if r.fromPool {
					r.gives(t, b, burned, to, n, api.Bank{}, second)
				}
			}
		}
	}
}

// TestArguments: P9.2, written out: the same place, no amount, or the burned pool as the source: that is told ahead of ErrPoor.
func TestArguments(t *testing.T) {
	b := of([]uint64{70, 50}, 30, 20, 10, 5)
	refused := func(is api.Bank, err api.Errno) {
		t.Helper()
		if !same(is, api.Bank{}) || err != api.ErrArg {
			t.Errorf("%v, %v; want ErrArg", is, err)
		}
	}
	for _, n := range []uint64{0, 1, 5, 10, 11, 70, 71, m} {
		for account := range 2 {
			refused(bank.Send(b, account, account, n))
			refused(bank.Pay(b, burned, account, n))
		}
		for pool := range 4 {
			refused(bank.Move(b, pool, pool, n))
			refused(bank.Move(b, burned, pool, n))
		}
		refused(bank.Burn(b, burned, n))
	}
	refused(bank.Send(b, 0, 1, 0))
	refused(bank.Send(b, 1, 0, 0))
	refused(bank.Send(b, 1, 1, 0))
}

// TestSameNumber: P9.2: an account and a pool of the same number are not the same.
func TestSameNumber(t *testing.T) {
	b := of([]uint64{70, 50, 40}, 30, 20, 10, 5)
	for i := range 3 {
		want := copied(b)
		want.Liquid[i] -= 7
		want.Pools[i] += 7
		requests()[2].gives(t, b, i, i, 7, want, api.OK)
		if i != burned {
			want = copied(b)
			want.Liquid[i] += 7
			want.Pools[i] -= 7
			requests()[1].gives(t, b, i, i, 7, want, api.OK)
		}
	}
}

// TestBurned: P9.2: what goes to the burned pool, by each transfer that reaches it.
func TestBurned(t *testing.T) {
	b := of([]uint64{70, 50}, 30, 20, 10, 5)
	for _, x := range []struct {
		is  func() (api.Bank, api.Errno)
		has api.Bank
	}{
		{func() (api.Bank, api.Errno) { return bank.Take(b, 1, burned, 50) }, of([]uint64{70, 0}, 30, 20, 60, 5)},
		{func() (api.Bank, api.Errno) { return bank.Take(b, 1, burned, 0) }, b},
		{func() (api.Bank, api.Errno) { return bank.Move(b, 3, burned, 5) }, of([]uint64{70, 50}, 30, 20, 15)},
		{func() (api.Bank, api.Errno) { return bank.Move(b, 1, burned, 0) }, b},
		{func() (api.Bank, api.Errno) { return bank.Burn(b, 0, 30) }, of([]uint64{70, 50}, 0, 20, 40, 5)},
		{func() (api.Bank, api.Errno) { return bank.Burn(b, 1, 1) }, of([]uint64{70, 50}, 30, 19, 11, 5)},
		{func() (api.Bank, api.Errno) { return bank.Burn(b, 3, 0) }, b},
	} {
		if is, err := x.is(); !same(is, x.has) || err != api.OK {
			t.Errorf("%v, %v; want %v", is, err, x.has)
		}
	}
	for _, is := range []func() (api.Bank, api.Errno){
		func() (api.Bank, api.Errno) { return bank.Take(b, 1, burned, 51) },
		func() (api.Bank, api.Errno) { return bank.Move(b, 3, burned, 6) },
		func() (api.Bank, api.Errno) { return bank.Burn(b, 0, 31) },
		func() (api.Bank, api.Errno) { return bank.Burn(b, 0, m) },
	} {
		if after, err := is(); !same(after, api.Bank{}) || err != api.ErrPoor {
			t.Errorf("%v, %v; want ErrPoor", after, err)
		}
	}
}

// places are all places of a bank of two accounts.
func places() []int { return []int{0, 1, 2, 3} }

// TestConserves: P9.4: over long walks of transfers, most of which are made, the supply stays, and the burned pool never shrinks.
func TestConserves(t *testing.T) {
	for _, b := range valids() {
		supply, err := bank.Supply(b)
		if err != api.OK {
			t.Fatal(err)
		}
		made := 0
		for i := range uint64(3000) {
			r := requests()[i*i%7%5]
			from, to := int(i*5%11%uint64(max(len(b.Liquid), 4))), int(i*7%13%uint64(max(len(b.Liquid), 4)))
			n := uint64(0)
			if has, err := cell(&b, r.fromPool, from); err == api.OK {
				n = *has/(i%5+1) + i%2*i%3
			}
			after, err := r.ask(b, from, to, n)
			if err != api.OK {
				continue
			}
			made++
			if is, err := bank.Supply(after); is != supply || err != api.OK {
				t.Fatalf("%s(%v, %d, %d, %d): %v: the supply is %d, %v; want %d", r.name, b, from, to, n, after, is, err, supply)
			}
			if after.Pools[burned] < b.Pools[burned] {
				t.Fatalf("%s(%v, %d, %d, %d): %v: the burned pool shrank", r.name, b, from, to, n, after)
			}
			b = after
		}
		if made < 300 {
			t.Errorf("%v: only %d transfers were made", b, made)
		}
	}
}

// back tells the request that is the reverse of r: it takes r's destination first.
func back(r request) request {
	switch r.name {
	case "Pay":
		return requests()[2]
	case "Take":
		return requests()[1]
	case "Burn":
		return requests()[3]
	}
	return r
}

// TestReverse: P9.5: a transfer and its reverse change nothing, except from the burned pool, which returns nothing.
func TestReverse(t *testing.T) {
	undone, kept := 0, 0
	for _, b := range valids() {
		for _, r := range requests() {
			for _, from := range places() {
				for _, to := range places() {
					for _, n := range r.amounts(copied(b), from) {
						if r.name == "Burn" {
							to = burned
						}
						after, err := r.ask(b, from, to, n)
						if err != api.OK {
							continue
						}
						again, err := back(r).ask(after, to, from, n)
						if r.toPool && to == burned {
							kept++
							if !same(again, api.Bank{}) || err != api.ErrArg {
								t.Errorf("%s(%v, %d, %d, %d) was reversed: %v, %v", r.name, b, from, to, n, again, err)
							}
							continue
						}
						undone++
						if !same(again, b) || err != api.OK {
							t.Errorf("%s(%v, %d, %d, %d), and its reverse: %v, %v", r.name, b, from, to, n, again, err)
						}
					}
				}
			}
		}
	}
	if undone < 500 || kept < 100 {
		t.Errorf("%d were undone, %d kept", undone, kept)
	}
}

// step is a transfer with its arguments, and the four places of a bank of four accounts that it is between: 0 to 3 are accounts, 4 to 7 pools.
type step struct {
	r        request
	from, to int
	n        uint64
}

// steps are all transfers between different places.
func steps(amounts ...uint64) (l []step) {
	for _, r := range requests() {
		for from := range 4 {
			for to := range 4 {
				if r.name == "Burn" && to != burned || r.fromPool && from == burned || r.fromPool == r.toPool && from == to {
					continue
				}
				for _, n := range amounts {
					l = append(l, step{r, from, to, n})
				}
			}
		}
	}
	return l
}

// ends tells the two places of a step.
func (s step) ends() []int {
	l := []int{s.from, s.to}
	if s.r.fromPool {
		l[0] += 4
	}
	if s.r.toPool {
		l[1] += 4
	}
	return l
}

// both tells the bank behind two steps.
func both(b api.Bank, first, second step) (api.Bank, api.Errno) {
	between, err := first.r.ask(b, first.from, first.to, first.n)
	if err != api.OK {
		return api.Bank{}, err
	}
	return second.r.ask(between, second.from, second.to, second.n)
}

// TestOrder: P9.5: two transfers between four different places can be done in any order, whether they can both be done or not; and of those that share places, whenever both orders can be done.
func TestOrder(t *testing.T) {
	b := of([]uint64{9, 8, 7, 6}, 5, 4, 3, 2)
	different := 0
	for _, first := range steps(1, 5, 9) {
		for _, second := range steps(2, 6) {
			one, err := both(b, first, second)
			other, reason := both(b, second, first)
			share := slices.ContainsFunc(first.ends(), func(place int) bool { return slices.Contains(second.ends(), place) })
			if !share {
				different++
			}
			if !share && err != reason || err == api.OK && reason == api.OK && !same(one, other) {
				t.Errorf("%v and %v: %v, %v; in the other order %v, %v", first, second, one, err, other, reason)
			}
		}
	}
	if different < 1000 {
		t.Error(different, "pairs between different places")
	}
}

// TestTransferExamples: the chapter's table, its second and its third row.
func TestTransferExamples(t *testing.T) {
	b := begun(t)
	for _, x := range []struct {
		is  func() (api.Bank, api.Errno)
		has api.Bank
		err api.Errno
	}{
		{func() (api.Bank, api.Errno) { return bank.Send(b, 0, 1, 71) }, api.Bank{}, api.ErrPoor},
		{func() (api.Bank, api.Errno) { return bank.Send(b, 0, 0, 1) }, api.Bank{}, api.ErrArg},
		{func() (api.Bank, api.Errno) { return bank.Send(b, 0, 1, 0) }, api.Bank{}, api.ErrArg},
		{func() (api.Bank, api.Errno) { return bank.Send(b, 0, 2, 0) }, api.Bank{}, api.ErrUnknown},
		{func() (api.Bank, api.Errno) { return bank.Send(b, 0, 1, 70) }, of([]uint64{0, 120}, 30), api.OK},
		{func() (api.Bank, api.Errno) { return bank.Burn(b, api.PoolBonded, 10) }, of([]uint64{70, 50}, 20, 0, 10, 0), api.OK},
		{func() (api.Bank, api.Errno) {
			after, _ := bank.Burn(b, api.PoolBonded, 10)
			return bank.Pay(after, api.PoolBurned, 0, 1)
		}, api.Bank{}, api.ErrArg},
		{func() (api.Bank, api.Errno) { return bank.Move(b, 0, 4, 1) }, api.Bank{}, api.ErrRange},
		{func() (api.Bank, api.Errno) { return bank.Pay(b, api.PoolBonded, 1, 0) }, of([]uint64{70, 50}, 30), api.OK},
	} {
		if is, err := x.is(); !same(is, x.has) || err != x.err {
			t.Errorf("%v, %v; want %v, %v", is, err, x.has, x.err)
		}
	}
}
