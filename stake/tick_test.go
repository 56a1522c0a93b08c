package stake_test

import (
	"slices"
	"testing"

	"distraint/api"
	"distraint/stake"
)

// TestTickLast: P18.3: behind the last height there is none.
func TestTickLast(t *testing.T) {
	for _, x := range []api.Ledger{bankOnly(5), scene(), fullOfClasses()} {
		x = odd(x, at(top))
		tick().refuses(t, x, api.ErrRange)
		x.Height--
		after := tick().holds(t, x)
		if after.Height != top {
			t.Errorf("at %d", after.Height)
		}
		tick().refuses(t, after, api.ErrRange)
	}
}

// TestTickNothing: P18.3: a tick that pays nothing, with nobody to choose.
func TestTickNothing(t *testing.T) {
	x := bankOnly(5, 0)
	for h := 1; h < 50; h++ {
		x = tick().is(t, x, told{tock: api.Tock{Height: h}})
	}
}

// queued is a ledger at the height 20, of which the unbonding is 5, with these entries.
func queued(l ...api.Entry) api.Ledger {
	return with(scene(), func(x *api.Ledger) { x.Entries, x.Hops, x.Validators[1].Status = l, nil, api.StatusActive }, func(x *api.Ledger) {
		x.Params.MaxActive = 3 // so that nobody comes in or goes out
	})
}

// TestTickPays: P18.3: entries of one owner and of several ones, of stamps of all kinds, that are mature at this height, one earlier, and one later; what is left of each is paid, be it nothing.
func TestTickPays(t *testing.T) {
	early, last, late := entry(2, bare(0, 1), 14, 10, 10), entry(0, hopped(1, 15, 0, 1), 15, 20, 15), entry(2, bare(3, 5), 16, 4, 4)
	for _, x := range []struct {
		entries []api.Entry
		paid    int
		liquid  []uint64
	}{
		{nil, 0, []uint64{100, 200, 300, 400, 500, 0, 50}},
		{[]api.Entry{late}, 0, []uint64{100, 200, 300, 400, 500, 0, 50}},
		{[]api.Entry{last}, 1, []uint64{115, 200, 300, 400, 500, 0, 50}},
		{[]api.Entry{early}, 1, []uint64{100, 200, 310, 400, 500, 0, 50}},
		{[]api.Entry{early, last, late}, 2, []uint64{115, 200, 310, 400, 500, 0, 50}},
		{[]api.Entry{last, last, late, late}, 2, []uint64{130, 200, 300, 400, 500, 0, 50}},
		{[]api.Entry{entry(6, bare(0, 1), 15, 1, 1), entry(5, bare(0, 1), 15, 7, 0), entry(6, bare(1, 3), 15, 9, 8)}, 3, []uint64{100, 200, 300, 400, 500, 0, 59}},
		{[]api.Entry{entry(1, bare(0, 1), 1, 7, 6), entry(1, bare(2, 1), 2, 7, 7), entry(3, bare(2, 1), 3, 7, 7), entry(1, bare(0, 1), 20, 3, 3)}, 3, []uint64{100, 213, 300, 407, 500, 0, 50}},
	} {
		after := tick().is(t, queued(x.entries...), told{tock: api.Tock{Height: 20, Paid: x.entries[:x.paid]}})
		if !slices.Equal(after.Bank.Liquid, x.liquid) || !slices.Equal(after.Entries, x.entries[x.paid:]) {
			t.Errorf("after %v: %v, %v", x.entries, after.Bank.Liquid, after.Entries)
		}
	}
}

// TestTickUnbonding: P18.5: an entry, and a hop, with each time of unbonding: it goes at that time behind its height and no earlier.
func TestTickUnbonding(t *testing.T) {
	for _, unbonding := range []int{1, 2, 5, 19, 100, api.MaxPeriod} {
		for _, created := range []int{1, 2, 1000, top - api.MaxPeriod - 2} {
			x := with(scene(), func(x *api.Ledger) {
				x.Params.Unbonding, x.Params.MaxAge = unbonding, 0
				x.Entries = []api.Entry{entry(6, bare(0, 1), created, 9, 8)}
				x.Hops = []api.Hop{jump(6, 0, 1, created)}
			})
			for h := created + unbonding - 1; h <= created+unbonding+1; h++ {
				x.Height = max(h, 20)
				after := tick().holds(t, x)
				ripe := x.Height >= created+unbonding
				if (len(after.Entries) == 0) != ripe || (len(after.Hops) == 0) != ripe || (after.Bank.Liquid[6] == 58) != ripe {
					t.Errorf("%d, %d at %d: %s", unbonding, created, x.Height, brief(after))
				}
			}
		}
	}
}

// TestTickHops: P18.3: hops that are mature at this height, one earlier, and one later.
func TestTickHops(t *testing.T) {
	early, last, late := jump(1, 1, 0, 14), jump(3, 0, 1, 15), jump(2, 3, 1, 16)
	for _, x := range []struct {
		hops []api.Hop
		gone int
	}{
		{nil, 0}, {[]api.Hop{late}, 0}, {[]api.Hop{last}, 1}, {[]api.Hop{early}, 1}, {[]api.Hop{early, last, late}, 2},
		{[]api.Hop{last, last, late, late}, 2}, {[]api.Hop{early, early, last}, 3},
	} {
		y := odd(queued(), func(y *api.Ledger) { y.Hops = x.hops })
		after := tick().is(t, y, told{tock: api.Tock{Height: 20, Hops: x.hops[:x.gone]}})
		if !slices.Equal(after.Hops, x.hops[x.gone:]) {
			t.Errorf("after %v: %v", x.hops, after.Hops)
		}
	}
}

// ranked is a ledger of validators with these statuses, of which each has so many tokens.
func ranked(most int, statuses string, tokens ...uint64) api.Ledger {
	x := bankOnly(make([]uint64, max(len(tokens), 1))...)
	x.Params.MaxActive = most
	for v, n := range tokens {
		y := api.Validator{Operator: v, MinSelf: great, Status: int(statuses[v] - '0')}
		y.Attest = y.Status == api.StatusTomb
		if y.Status > api.StatusActive {
			y.Until = 1
		}
		x.Validators = append(x.Validators, y)
		if n > 0 {
			lot(v, bare(v, 1), n, n)(&x)
		}
	}
	return even(x)
}

// TestTickChooses: P18.3 and P18.7: who comes in and who goes out: of more, of fewer and of equal tokens, jailed and tombstoned ones, and ones of none. (The statuses: 1 idle, 2 active, 3 jailed, 4 tombstoned.)
func TestTickChooses(t *testing.T) {
	for _, x := range []struct {
		most     int
		statuses string
		tokens   []uint64
		in, out  []int
		after    string
	}{
		{1, "", nil, nil, nil, ""},
		{1, "1", []uint64{5}, []int{0}, nil, "2"},
		{1, "2", []uint64{5}, nil, nil, "2"},
		{1, "2", []uint64{0}, nil, []int{0}, "1"},
		{1, "1", []uint64{0}, nil, nil, "1"},
		{1, "3", []uint64{5}, nil, nil, "3"},
		{1, "4", []uint64{5}, nil, nil, "4"},
		{1, "12", []uint64{6, 5}, []int{0}, []int{1}, "21"},
		{1, "21", []uint64{5, 6}, []int{1}, []int{0}, "12"},
		{1, "12", []uint64{5, 5}, []int{0}, []int{1}, "21"},
		{1, "21", []uint64{5, 5}, nil, nil, "21"},
		{1, "11", []uint64{5, 5}, []int{0}, nil, "21"},
		{1, "31", []uint64{9, 5}, []int{1}, nil, "32"},
		{1, "13", []uint64{5, 9}, []int{0}, nil, "23"},
		{1, "142", []uint64{5, 9, 4}, []int{0}, []int{2}, "241"},
		{2, "112", []uint64{5, 6, 4}, []int{0, 1}, []int{2}, "221"},
		{2, "2211", []uint64{5, 5, 5, 5}, nil, nil, "2211"},
		{2, "1122", []uint64{5, 5, 5, 5}, []int{0, 1}, []int{2, 3}, "2211"},
		{2, "1122", []uint64{5, 5, 5, 6}, []int{0}, []int{2}, "2112"},
		{2, "3122", []uint64{9, 5, 5, 6}, []int{1}, []int{2}, "3212"},
		{3, "1314", []uint64{1, 9, 2, 9}, []int{0, 2}, nil, "2324"},
		{32, "11111", []uint64{1, 2, 0, 3, 4}, []int{0, 1, 3, 4}, nil, "22122"},
		{32, "22222", []uint64{1, 2, 0, 3, 4}, nil, []int{2}, "22122"},
		{2, "22222", []uint64{1, 1 << 60, 3, 1 << 61, 2}, nil, []int{0, 2, 4}, "12121"},
	} {
		after := tick().is(t, ranked(x.most, x.statuses, x.tokens...), told{tock: api.Tock{Height: 1, In: x.in, Out: x.out}})
		for v, y := range after.Validators {
			if y.Status != int(x.after[v]-'0') {
				t.Errorf("%s %v, at most %d: %d is %d", x.statuses, x.tokens, x.most, v, y.Status)
			}
		}
	}
}

// TestTickJailed: P18.3: who was jailed in the block is told neither by its tick nor by the next one, though it was active; who was unjailed comes in again.
func TestTickJailed(t *testing.T) {
	x := ranked(1, "21", 9, 5)
	x = punish(0, 2).is(t, x, told{})
	x = tick().is(t, x, told{tock: api.Tock{Height: 1, In: []int{1}}})
	x = tick().is(t, x, told{tock: api.Tock{Height: 2}})
	x = with(x, validator(0, func(x *api.Validator) { x.MinSelf = 9 }), at(8))
	x = unjail(0, 0).is(t, x, told{})
	x = tick().is(t, x, told{tock: api.Tock{Height: 8, In: []int{0}, Out: []int{1}}})
	x = punish(0, 1).is(t, x, told{})
	tick().is(t, x, told{tock: api.Tock{Height: 9, In: []int{1}}})
}

// TestTickMoved: P18.3: tokens that came, went, moved or were cut in the block count in its tick; those that are paid in it do not.
func TestTickMoved(t *testing.T) {
	x := ranked(1, "21", 9, 5)
	x.Bank.Liquid[0] = 100
	for _, c := range []struct {
		do  call
		ins []int
	}{
		{delegate(0, 1, 4), nil}, {delegate(0, 1, 5), []int{1}},
		{undelegate(0, bare(0, 1), 4), []int{1}}, // its operator is jailed
		{redelegate(0, bare(0, 1), 1, 1), []int{1}},
		{cut(0, 1, all*4/9, 0), nil}, {cut(0, 1, all/2, 0), nil}, {cut(0, 1, all*5/9+1, 0), []int{1}}, {cut(1, 1, all, 0), nil},
	} {
		y := c.do.holds(t, x)
		got := tick().ask(load(t, y))
		if !slices.Equal(got.tock.In, c.ins) {
			t.Errorf("after %s: %+v", c.do.name, got.tock)
		}
		tick().holds(t, y)
	}
}

// TestTicks: P18.3: many ticks, one after the other, of a stake in which entries and hops of each height become mature.
func TestTicks(t *testing.T) {
	x := scene()
	s := load(t, x)
	for h := range 40 {
		for _, c := range []call{delegate(6, h%6, 1), undelegate(2, bare(1, 3), 2), redelegate(2, bare(0, 1), 1, 1), redelegate(2, bare(0, 1), 1, 5), undelegate(4, bare(4, 6), 1)} {
			x = c.goes(t, s, x)
		}
		x = tick().goes(t, s, x)
	}
	if err := stake.Check(s.Save()); err != api.OK || x.Height != 60 {
		t.Errorf("%v at %d", err, x.Height)
	}
}
