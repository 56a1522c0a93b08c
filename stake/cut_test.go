package stake_test

import (
	"testing"

	"distraint/api"
)

// TestCutRefused: P18.3: each refusal of a Cut, alone and ahead of those behind it.
func TestCutRefused(t *testing.T) {
	for _, v := range append(nowhere(), 6) {
		for _, h := range []int{-1, 0, 1, top, top + 1} {
			for _, n := range []uint64{0, all, all + 1, great} {
				cut(v, h, n, n).refuses(t, scene(), api.ErrUnknown)
			}
		}
	}
	for v := range 6 {
		for _, h := range []int{-1 << 62, -1, 0, top + 1, 1 << 62} {
			cut(v, h, 0, 0).refuses(t, scene(), api.ErrRange)
			cut(v, h, all, all).refuses(t, scene(), api.ErrRange)
		}
		for _, n := range []uint64{all + 1, all + 2, 1 << 32, great} {
			cut(v, 16, n, 0).refuses(t, scene(), api.ErrRange)
			cut(v, 16, 0, n).refuses(t, scene(), api.ErrRange)
			cut(v, 16, n, n).refuses(t, scene(), api.ErrRange)
			cut(v, top, n, all).refuses(t, scene(), api.ErrRange)
		}
	}
	cut(0, 1, 0, 0).refuses(t, bankOnly(5), api.ErrUnknown)
}

// billionths are parts at the bounds, and between.
func billionths() []uint64 { return []uint64{0, 1, 7, all / 10, all / 2, all - 1, all} }

// TestCutHeights: P18.3 and P18.6: each validator of scene at each height around those of its lots, and at the last one, with each part.
func TestCutHeights(t *testing.T) {
	for v := range 6 {
		for _, h := range append(heights(1, 26), top-1, top) {
			for _, ppb := range billionths() {
				for _, keep := range billionths() {
					cut(v, h, ppb, keep).holds(t, scene())
				}
			}
		}
	}
}

func heights(from, to int) (l []int) {
	for h := from; h <= to; h++ {
		l = append(l, h)
	}
	return l
}

// TestCutLots: P18.3 and P18.6, written out: which of scene's lots backed a validator at a height; each loses a part of its own, rounded down.
func TestCutLots(t *testing.T) {
	loss := func(s api.Stamp, a uint64) api.Loss { return api.Loss{Stamp: s, Amount: a} }
	early, late, back := hopped(0, 14, 1, 3), hopped(0, 15, 1, 3), hopped(1, 16, 0, 1)
	for _, x := range []struct {
		v, h    int
		classes []api.Loss
		entries []api.Shave
	}{
		{0, 1, []api.Loss{loss(bare(0, 1), 40), loss(back, 5)}, []api.Shave{{At: 0, Amount: 5}, {At: 1, Amount: 7}, {At: 3, Amount: 5}, {At: 4, Amount: 4}}},
		{0, 14, []api.Loss{loss(bare(0, 1), 40), loss(early, 3), loss(back, 5)}, []api.Shave{{At: 0, Amount: 5}, {At: 1, Amount: 7}, {At: 3, Amount: 5}, {At: 4, Amount: 4}}},
		{0, 16, []api.Loss{loss(bare(0, 1), 40), loss(early, 3), loss(late, 4), loss(back, 5)}, []api.Shave{{At: 0, Amount: 5}, {At: 1, Amount: 7}, {At: 3, Amount: 5}, {At: 4, Amount: 4}}},
		{0, 17, []api.Loss{loss(bare(0, 1), 40), loss(early, 3), loss(late, 4)}, []api.Shave{{At: 1, Amount: 7}, {At: 4, Amount: 4}}},
		{0, 18, []api.Loss{loss(bare(0, 1), 40), loss(early, 3), loss(late, 4)}, []api.Shave{{At: 1, Amount: 7}, {At: 4, Amount: 4}}},
		{0, 19, []api.Loss{loss(bare(0, 1), 40), loss(early, 3), loss(late, 4)}, []api.Shave{{At: 4, Amount: 4}}},
		{0, 21, []api.Loss{loss(bare(0, 1), 40), loss(early, 3), loss(late, 4)}, nil},
		{1, 2, nil, nil},
		{1, 3, []api.Loss{loss(early, 3), loss(late, 4), loss(bare(1, 3), 20)}, nil},
		{1, 15, []api.Loss{loss(late, 4), loss(bare(1, 3), 20)}, nil},
		{1, 16, []api.Loss{loss(bare(1, 3), 20), loss(back, 5)}, []api.Shave{{At: 3, Amount: 5}}},
		{1, 20, []api.Loss{loss(bare(1, 3), 20), loss(back, 5), loss(bare(1, 20), 3)}, nil},
		{3, 4, nil, nil},
		{3, 5, []api.Loss{loss(bare(3, 5), 0)}, []api.Shave{{At: 2, Amount: 0}}},
		{3, 19, []api.Loss{loss(bare(3, 5), 0)}, nil},
		{2, 20, []api.Loss{loss(bare(2, 4), 16)}, nil},
		{5, 19, nil, nil},
		{5, 20, []api.Loss{loss(bare(5, 20), 15)}, nil},
	} {
		toll := api.Toll{Classes: x.classes, Entries: x.entries}
		for _, l := range x.classes {
			toll.Bonded += l.Amount
		}
		for _, l := range x.entries {
			toll.Unbonding += l.Amount
		}
		toll.Burned = toll.Bonded + toll.Unbonding
		after := cut(x.v, x.h, all/2, 0).is(t, scene(), told{toll: toll})
		if after.Bank.Pools != [4]uint64{221 - toll.Bonded, 45 - toll.Unbonding, 70 + toll.Burned, 90} {
			t.Errorf("%d at %d: %v", x.v, x.h, after.Bank.Pools)
		}
	}
}

// TestCutKept: P18.3, written out: what is kept is a part of the sum, and no sum of parts; what is not kept is burned.
func TestCutKept(t *testing.T) {
	for _, x := range []struct{ ppb, keep, bonded, unbonding, kept, burned uint64 }{
		{0, 0, 0, 0, 0, 0}, {0, all, 0, 0, 0, 0}, {1, all, 0, 0, 0, 0},
		{all / 10, 0, 5, 2, 0, 7}, {all / 10, all / 2, 5, 2, 3, 4}, {all / 10, all, 5, 2, 7, 0}, {all / 10, all - 1, 5, 2, 6, 1}, {all / 10, 1, 5, 2, 0, 7},
		{all / 2, all / 2, 25, 12, 18, 19}, {all / 2, all / 5, 25, 12, 7, 30}, {all, all / 2, 51, 25, 38, 38}, {all, all, 51, 25, 76, 0}, {all, 0, 51, 25, 0, 76},
	} {
		y := with(ranked(1, "1", 51), func(y *api.Ledger) { y.Entries = []api.Entry{entry(0, bare(0, 1), 1, 30, 25)} })
		after := cut(0, 1, x.ppb, x.keep).holds(t, y)
		if got := cut(0, 1, x.ppb, x.keep).ask(load(t, y)).toll; got.Bonded != x.bonded || got.Unbonding != x.unbonding || got.Kept != x.kept || got.Burned != x.burned {
			t.Errorf("%+v: %+v", x, got)
		}
		if after.Bank.Pools != [4]uint64{51 - x.bonded, 25 - x.unbonding, x.burned, x.kept} {
			t.Errorf("%+v: %v", x, after.Bank.Pools)
		}
	}
}

// TestCutAll: P18.3: all of it: the classes and their positions go, the entries stay with nothing in them, and the account is paid nothing.
func TestCutAll(t *testing.T) {
	after := cut(0, 16, all, 0).holds(t, scene())
	if len(after.Holding.Classes) != 6 || len(after.Holding.Positions) != 7 || len(after.Entries) != 5 || after.Bank.Pools[api.PoolUnbonding] != 0 {
		t.Errorf("cut: %s", brief(after))
	}
	after.Height = 21
	tick().holds(t, after)
	after.Height = 25
	tick().holds(t, after)
}

// TestCutGreat: P18.3: amounts of which a product with billionths has more than 64 bits.
func TestCutGreat(t *testing.T) {
	for _, bonded := range []uint64{supply, supply - 1, supply/2 + 1, 1<<61 + 12345, 5} {
		x := with(ranked(1, "1", bonded), func(y *api.Ledger) {
			if bonded < supply {
				y.Entries = []api.Entry{entry(0, bare(0, 1), 1, supply-bonded, supply-bonded)}
			}
		})
		for _, ppb := range append(billionths(), 123456789, 999999937) {
			for _, keep := range append(billionths(), 123456789, 999999937) {
				cut(0, 1, ppb, keep).holds(t, x)
			}
		}
	}
	x := ranked(1, "1", supply)
	cut(0, 1, all, all-1).is(t, x, told{toll: api.Toll{
		Classes: []api.Loss{{Stamp: bare(0, 1), Amount: supply}}, Bonded: supply, Kept: 4611686013815701885, Burned: 4611686019,
	}})
}

// TestCutTwice: P18.6: one cut after another takes a part of what is left.
func TestCutTwice(t *testing.T) {
	x := scene()
	s := load(t, x)
	for range 12 {
		for v := range 6 {
			x = cut(v, 16, all/3, all/4).goes(t, s, x)
			x = cut(v, 20, all/5, all/4).goes(t, s, x)
		}
	}
}
