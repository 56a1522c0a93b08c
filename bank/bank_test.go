package bank_test

import (
	"math"
	"math/big"
	"slices"
	"testing"

	"distraint/api"
	"distraint/bank"
)

const (
	most = 1 << 62   // the greatest supply
	m    = 1<<64 - 1 // the greatest amount
)

// of tells a bank of these balances and pools; its balances have spare capacity, which holds numbers that no bank could have.
func of(liquid []uint64, pools ...uint64) api.Bank {
	room := append(slices.Clone(liquid), m, m, 7, m)
	b := api.Bank{Liquid: room[:len(liquid)]}
	copy(b.Pools[:], pools)
	return b
}

// same tells whether two banks have the same balances and pools.
func same(a, b api.Bank) bool { return slices.Equal(a.Liquid, b.Liquid) && a.Pools == b.Pools }

// copied tells b in memory of its own, without its spare capacity.
func copied(b api.Bank) api.Bank {
	b.Liquid = slices.Clip(slices.Clone(b.Liquid))
	return b
}

// row tells n times this balance.
func row(n int, balance uint64) []uint64 { return slices.Repeat([]uint64{balance}, n) }

// with tells l, but with another number at one place.
func with(l []uint64, at int, n uint64) []uint64 {
	l = slices.Clone(l)
	l[at] = n
	return l
}

// exact tells the sum of all balances, and of all pools, whatever their size.
func exact(b api.Bank) (total, supply *big.Int) {
	total = new(big.Int)
	for _, n := range b.Liquid {
		total.Add(total, new(big.Int).SetUint64(n))
	}
	supply = new(big.Int).Set(total)
	for _, n := range b.Pools {
		supply.Add(supply, new(big.Int).SetUint64(n))
	}
	return
}

// checked is what the chapter's words say of a bank.
func checked(b api.Bank) api.Errno {
	_, supply := exact(b)
	switch {
	case len(b.Liquid) < 1:
		return api.ErrRange
	case len(b.Liquid) > 64:
		return api.ErrLong
	case supply.Cmp(big.NewInt(most)) > 0:
		return api.ErrOver
	}
	return api.OK
}

// valids are valid banks: of 1, some and 64 accounts, of no supply, some, and the greatest one, wherever that is.
func valids() []api.Bank {
	return []api.Bank{
		of([]uint64{0}),
		of([]uint64{1}),
		of([]uint64{most}),
		of([]uint64{most - 1}, 0, 1),
		of([]uint64{0}, most),
		of([]uint64{0}, 0, most),
		of([]uint64{0}, 0, 0, most),
		of([]uint64{0}, 0, 0, 0, most),
		of([]uint64{1}, most/4, most/4, most/4, most/4-1),
		of([]uint64{100, 50}),
		of([]uint64{70, 50}, 30),
		of([]uint64{70, 50}, 30, 20, 10, 5),
		of([]uint64{0, most}),
		of([]uint64{most / 2, most / 2}),
		of([]uint64{most/2 + 1, most/2 - 1}),
		of([]uint64{5, 0, 7}, 1, 2, 3, 4),
		of(row(63, 9), 1, 1, 1, 1),
		of(row(64, 0)),
		of(row(64, 0), 0, 0, 0, 9),
		of(row(64, most/64)),
		of(row(64, most/128), most/8, most/8, most/8, most/8),
		of(with(row(64, 3), 63, 1000), 400, 300, 200, 100),
	}
}

// wrongs are banks that are not valid, by their errors.
func wrongs() map[api.Errno][]api.Bank {
	return map[api.Errno][]api.Bank{
		api.ErrRange: {
			{},
			of(nil),
			of([]uint64{}),
			of(nil, 1),
			of(nil, most),
			of(nil, m, m, m, m),
		},
		api.ErrLong: {
			of(row(65, 0)),
			of(row(65, 1), 1, 1, 1, 1),
			of(row(65, most)),
			of(row(65, m), m, m, m, m),
			of(row(66, 0)),
			of(row(128, 0)),
			of(row(1000, 5)),
		},
		api.ErrOver: {
			of([]uint64{most + 1}),
			of([]uint64{most, 1}),
			of([]uint64{1, most}),
			of([]uint64{most}, 1),
			of([]uint64{most}, 0, 1),
			of([]uint64{most}, 0, 0, 1),
			of([]uint64{most}, 0, 0, 0, 1),
			of([]uint64{0}, most+1),
			of([]uint64{0}, 0, 0, 0, most+1),
			of([]uint64{1}, most/4, most/4, most/4, most/4),
			of([]uint64{1 << 63}),
			of([]uint64{m}),
			of([]uint64{0}, m),
			of([]uint64{0}, 0, m),
			of([]uint64{0}, 0, 0, m),
			of([]uint64{0}, 0, 0, 0, m),
			// The sum is 2^64, or more by what a bank may have: in 64 bits it would wrap around.
			of([]uint64{1 << 63, 1 << 63}),
			of([]uint64{m, 1}),
			of([]uint64{1, m}),
			of([]uint64{m, 2, 3}),
			of([]uint64{m, m}),
			of([]uint64{m}, 1),
			of([]uint64{m}, 0, 0, 0, 1),
			of([]uint64{1}, m),
			of([]uint64{1}, 0, 0, 0, m),
			of([]uint64{0}, m, 1),
			of([]uint64{0}, 0, 0, m, 1),
			of([]uint64{0}, 1<<63, 0, 1<<63),
			of([]uint64{0}, most, most, most, most),
			of([]uint64{most, most}, most, most),
			of([]uint64{m, m}, m, m, m, m),
			of(row(64, m), m, m, m, m),
			of(row(64, 1<<58), 1),
			of(row(64, most/64), 1),
			of(row(64, most)),
			of(with(row(64, most/64), 63, most/64+1)),
			of(with(row(64, 0), 63, m), 0, 0, 0, 1),
		},
	}
}

// nowhere are numbers of no account and of no pool of any bank.
func nowhere() []int {
	return []int{math.MinInt, math.MinInt + 1, -1 << 32, -4, -1, 65, 128, 1 << 32, math.MaxInt - 1, math.MaxInt}
}

// numbers are some of accounts and of pools, in a bank of count accounts, and outside of it.
func numbers(count int) []int {
	return append(nowhere(), 0, 1, 2, 3, 4, count-1, count, count+1)
}

// told is a call that tells a number of a bank.
type told struct {
	name string
	ask  func(b api.Bank) (uint64, api.Errno)
}

func tells() []told {
	return []told{
		{"Supply", bank.Supply},
		{"Total", bank.Total},
		{"Have of 0", func(b api.Bank) (uint64, api.Errno) { return bank.Have(b, 0) }},
	}
}

// tells: a bank is asked, and stays as it is.
func (c told) tells(t *testing.T, b api.Bank, want uint64, err api.Errno) {
	t.Helper()
	before := copied(b)
	n, e := c.ask(b)
	if n != want || e != err {
		t.Errorf("%s(%v): %d, %v; want %d, %v", c.name, b, n, e, want, err)
	}
	untouched(t, c.name, b, before)
}

// untouched: b, made by of, is as it was, its spare capacity too.
func untouched(t *testing.T, name string, b, before api.Bank) {
	t.Helper()
	if !same(b, before) {
		t.Errorf("%s changed %v: %v", name, before, b)
	}
	if spare := b.Liquid[len(b.Liquid):cap(b.Liquid)]; len(spare) >= 4 && !slices.Equal(spare[:4], []uint64{m, m, 7, m}) {
		t.Errorf("%s changed what is behind %v: %v", name, before, spare)
	}
}

// TestChecks: P9.1: valid banks, and their supply.
func TestChecks(t *testing.T) {
	for _, b := range valids() {
		before := copied(b)
		if err := bank.Check(b); err != api.OK || checked(b) != api.OK {
			t.Errorf("Check(%v): %v; want %v", b, err, checked(b))
		}
		untouched(t, "Check", b, before)
		total, supply := exact(b)
		for i, want := range []uint64{supply.Uint64(), total.Uint64(), before.Liquid[0]} {
			tells()[i].tells(t, b, want, api.OK)
		}
	}
}

// TestChecksWrong: P9.1: banks that are not valid: each call says why.
func TestChecksWrong(t *testing.T) {
	for err, l := range wrongs() {
		for _, b := range l {
			before := copied(b)
			if is := bank.Check(b); is != err || checked(b) != err {
				t.Errorf("Check(%v): %v; want %v, %v", b, is, err, checked(b))
			}
			untouched(t, "Check", b, before)
			for _, c := range tells() {
				c.tells(t, b, 0, err)
			}
			for _, account := range numbers(len(b.Liquid)) {
				if n, is := bank.Have(b, account); n != 0 || is != err {
					t.Errorf("Have(%v, %d): %d, %v; want %v", b, account, n, is, err)
				}
			}
		}
	}
}

// TestSupplyEdges: P9.1: the supply on both sides of 2^62, 2^63 and 2^64, parted in all ways between two of all places, next to others that are empty.
func TestSupplyEdges(t *testing.T) {
	for _, accounts := range []int{1, 2, 64} {
		for first := range accounts + 4 {
			for second := range first {
				if first-second > 5 && second > 2 {
					continue
				}
				for _, x := range []struct {
					a, b uint64
					err  api.Errno
				}{
					{most - 1, 0, api.OK}, {most - 1, 1, api.OK}, {most - 1, 2, api.ErrOver}, {0, most, api.OK}, {most / 2, most / 2, api.OK}, {most/2 + 1, most / 2, api.ErrOver},
					{0, most + 1, api.ErrOver}, {most, most, api.ErrOver}, {most, 3 * most, api.ErrOver}, {most, 3*most + 1, api.ErrOver}, {most, 3*most - 1, api.ErrOver},
					{1, m, api.ErrOver}, {m, 1, api.ErrOver}, {0, m, api.ErrOver}, {m, m, api.ErrOver}, {1 << 63, 1 << 63, api.ErrOver}, {1 << 63, 1<<63 + 1, api.ErrOver},
				} {
					cells := make([]uint64, accounts+4)
					cells[first], cells[second] = x.a, x.b
					b := of(cells[:accounts], cells[accounts:]...)
					if err := bank.Check(b); err != x.err {
						t.Errorf("Check(%v): %v; want %v", b, err, x.err)
					}
				}
			}
		}
	}
}

// TestNew: P9.1: what New tells has these balances and no pools, or its Check's error.
func TestNew(t *testing.T) {
	for _, l := range [][]uint64{
		nil, {}, {0}, {1}, {100, 50}, {most}, {most - 1, 1}, {most, 1}, {1, most}, {most + 1}, {1 << 63}, {m}, {m, 1}, {m, m}, {1 << 63, 1 << 63}, {m, 1, 5}, {most, most, most, most},
		row(63, 7), row(64, 0), row(64, 5), row(64, most/64), with(row(64, most/64), 63, most/64+1), with(row(64, most/64), 0, most/64-1), row(64, 1<<58+1), row(64, m),
		row(65, 0), row(65, 5), row(65, m), row(66, 0), row(500, 1),
	} {
		room := of(l)
		before := copied(room)
		b, err := bank.New(room.Liquid)
		want := api.Bank{}
		if checked(before) == api.OK {
			want = before
		}
		if !same(b, want) || err != checked(before) {
			t.Errorf("New(%v): %v, %v; want %v, %v", l, b, err, want, checked(before))
		}
		untouched(t, "New", room, before)
		apart(t, "New", b, room)
	}
}

// apart: what a call told shares no memory with the bank that it was asked of, nor hands out what was behind its balances.
func apart(t *testing.T, name string, is, was api.Bank) {
	t.Helper()
	if len(is.Liquid) == 0 {
		return
	}
	told, before := copied(is), slices.Clone(was.Liquid[:cap(was.Liquid)])
	all := is.Liquid[:cap(is.Liquid)]
	if slices.Contains(all[len(is.Liquid):], m) {
		t.Errorf("%s hands out spare capacity: %v", name, all)
	}
	for i := range all {
		all[i] = 12345
	}
	if !slices.Equal(was.Liquid[:cap(was.Liquid)], before) {
		t.Errorf("%s: what it told of %v is in the same memory", name, was)
	}
	copy(all, told.Liquid)
	mine := was.Liquid[:cap(was.Liquid)]
	for i := range mine {
		mine[i] = 54321
	}
	if !same(is, told) {
		t.Errorf("%s: what it told changes with what it was asked of", name)
	}
	copy(mine, before)
}

// TestHave: P9.1: each account of each bank, and no other one.
func TestHave(t *testing.T) {
	for _, b := range valids() {
		before := copied(b)
		for account, want := range before.Liquid {
			if n, err := bank.Have(b, account); n != want || err != api.OK {
				t.Errorf("Have(%v, %d): %d, %v; want %d", b, account, n, err, want)
			}
		}
		for _, account := range append(nowhere(), len(b.Liquid), len(b.Liquid)+1, len(b.Liquid)+3, len(b.Liquid)+4) {
			if n, err := bank.Have(b, account); n != 0 || err != api.ErrUnknown {
				t.Errorf("Have(%v, %d): %d, %v; want ErrUnknown", b, account, n, err)
			}
		}
		untouched(t, "Have", b, before)
	}
}

// begun is the bank of the chapter's table.
func begun(t *testing.T) api.Bank {
	t.Helper()
	b, err := bank.New([]uint64{100, 50})
	if err != api.OK {
		t.Fatal(err)
	}
	b, err = bank.Take(b, 0, api.PoolBonded, 30)
	if err != api.OK {
		t.Fatal(err)
	}
	return b
}

// TestExamples: the chapter's table, its first and its fourth row.
func TestExamples(t *testing.T) {
	b := begun(t)
	for i, want := range []uint64{150, 120, 70} {
		tells()[i].tells(t, b, want, api.OK)
	}
	if n, err := bank.Have(b, 2); n != 0 || err != api.ErrUnknown {
		t.Errorf("Have of 2: %d, %v", n, err)
	}
	for _, x := range []struct {
		l   []uint64
		err api.Errno
	}{
		{nil, api.ErrRange},
		{make([]uint64, 65), api.ErrLong},
		{[]uint64{4611686018427387904, 1}, api.ErrOver},
		{[]uint64{4611686018427387904}, api.OK},
		{[]uint64{18446744073709551615, 18446744073709551615}, api.ErrOver},
	} {
		want := x.l
		if x.err != api.OK {
			want = nil
		}
		if b, err := bank.New(x.l); !same(b, api.Bank{Liquid: want}) || err != x.err {
			t.Errorf("New(%v): %v, %v; want %v", x.l, b, err, x.err)
		}
	}
}
