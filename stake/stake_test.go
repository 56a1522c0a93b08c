package stake_test

import (
	"math"
	"slices"
	"testing"

	"distraint/api"
	"distraint/bank"
	"distraint/holding"
	"distraint/params"
	"distraint/stake"
)

// TestNew: P18.1: a new stake has its accounts at the first height, and nothing else; the list of balances is neither changed nor kept.
func TestNew(t *testing.T) {
	for _, liquid := range [][]uint64{{0}, {1, 2, 3}, {supply}, {supply - 5, 0, 5}, make([]uint64, 64)} {
		for _, p := range []api.Params{short(), params.Default()} {
			mine := spaced(liquid, great)
			s, err := stake.New(p, mine)
			if err != api.OK {
				t.Fatalf("New(%v): %v", liquid, err)
			}
			if !slices.Equal(mine[:cap(mine)], spaced(liquid, great)[:cap(mine)]) {
				t.Errorf("New changed %v, or what is behind it", liquid)
			}
			overwrite(mine, great)
			saved(t, "New", s, api.Ledger{Params: p, Height: 1, Bank: api.Bank{Liquid: liquid}})
		}
	}
}

// TestNewRefused: P18.1: the error of the params ahead of that of the bank.
func TestNewRefused(t *testing.T) {
	late, odd := short(), short()
	late.MaxAge = late.Unbonding + 1
	odd.Entries = 17
	for _, x := range []struct {
		p      api.Params
		liquid []uint64
		err    api.Errno
	}{
		{late, []uint64{1}, api.ErrOrder}, {odd, []uint64{1}, api.ErrRange}, {api.Params{}, []uint64{1}, api.ErrRange},
		{late, nil, api.ErrOrder}, {late, make([]uint64, 65), api.ErrOrder}, {odd, make([]uint64, 65), api.ErrRange}, {odd, []uint64{supply, 1}, api.ErrRange},
		{short(), nil, api.ErrRange}, {short(), []uint64{}, api.ErrRange}, {short(), make([]uint64, 65), api.ErrLong}, {short(), []uint64{supply, 1}, api.ErrOver}, {short(), []uint64{great, great}, api.ErrOver},
	} {
		if s, err := stake.New(x.p, x.liquid); s != nil || err != x.err {
			t.Errorf("New(%+v, %v): %v; want %v", x.p, x.liquid, err, x.err)
		}
	}
}

// TestNewApart: P18.1: each call of New makes another stake.
func TestNewApart(t *testing.T) {
	liquid := []uint64{5, 6}
	one, _ := stake.New(short(), liquid)
	other, _ := stake.New(short(), liquid)
	one.Transfer(0, 1, 5)
	one.Tick()
	saved(t, "the other one", other, bankOnly(5, 6))
}

// invalids are stakes that none of New, Load and Copy returned as valid ones.
func invalids(t *testing.T) map[string]*stake.Stake {
	t.Helper()
	value, none := *load(t, scene()), stake.Stake{}
	refused, _ := stake.New(short(), nil)
	odd, _ := stake.Load(api.Ledger{})
	over := load(t, scene())
	*over = *load(t, bankOnly(5))
	return map[string]*stake.Stake{
		"nil": nil, "zero": {}, "copied as a value": &value, "written over": over,
		"a copy of nil": (*stake.Stake)(nil).Copy(), "a copy of zero": none.Copy(), "a copy of a value": (&value).Copy(), "a copy of a copy": none.Copy().Copy(),
		"what New refused": refused, "what Load refused": odd,
	}
}

// TestInvalid: P18.2 and P18.3: what an invalid stake tells, whatever it is asked.
func TestInvalid(t *testing.T) {
	for name, s := range invalids(t) {
		if x := s.Save(); !same(x, api.Ledger{}) {
			t.Errorf("%s: Save: %s", name, brief(x))
		}
		if s.Height() != 0 || len(s.Tokens()) != 0 {
			t.Errorf("%s: %d, %v", name, s.Height(), s.Tokens())
		}
		for _, v := range []int{math.MinInt, -1, 0, 1, 5, 6, 32, math.MaxInt} {
			if n, err := s.Own(v); n != 0 || err != api.ErrNil {
				t.Errorf("%s: Own(%d): %d, %v", name, v, n, err)
			}
			for _, n := range []uint64{0, 1, 5, great} {
				for _, c := range []call{
					transfer(v, 1, n), transfer(0, v, n), create(v, n, 5), create(0, 5, n), delegate(v, 0, n), delegate(0, v, n),
					undelegate(v, bare(0, 1), n), undelegate(0, bare(v, 1), n), redelegate(v, bare(0, 1), n, 1), redelegate(0, bare(0, 1), n, v),
					unjail(v, 0), unjail(0, v), tick(), cut(v, 1, n, n), cut(0, v, n, n), punish(v, 1), punish(0, v), grant(v, n),
				} {
					if got := c.ask(s); !got.same(refused(api.ErrNil)) {
						t.Errorf("%s: %s: %+v", name, c.name, got)
					}
				}
			}
		}
		if height := s.Copy().Height(); height != 0 {
			t.Errorf("%s: its copy is at %d", name, height)
		}
	}
}

// TestValueApart: P18.2: who asks a stake's copy as a value has not changed the stake.
func TestValueApart(t *testing.T) {
	s := load(t, scene())
	value := *s
	value.Tick()
	value.Transfer(0, 1, 5)
	saved(t, "the stake", s, scene())
	s.Tick()
	s.Transfer(0, 1, 5)
	if s.Height() != 21 || value.Height() != 0 {
		t.Errorf("%d, %d", s.Height(), value.Height())
	}
}

// TestLoad: P18.1 and P18.2: a stake is loaded from a ledger and saved as the same one; what is written to the ledger afterwards, or to what was saved, does not show in it.
func TestLoad(t *testing.T) {
	for _, x := range append(valids(), fullOfClasses(), fullOfEntries(), fullOfHops()) {
		mine := roomy(x)
		s := load(t, mine)
		if !same(entire(mine), entire(roomy(x))) {
			t.Errorf("Load changed %s, or what is behind it", brief(x))
		}
		spoil(mine)
		saved(t, "Load", s, x)
		saved(t, "Load of what was saved", load(t, s.Save()), x)
	}
}

// doings are operations of each kind that change scene, one after the other.
func doings() []call {
	return []call{
		transfer(0, 1, 5), delegate(0, 0, 5), delegate(1, 1, 7), undelegate(0, bare(0, 1), 31), undelegate(2, bare(1, 3), 4), redelegate(2, bare(0, 1), 10, 1), redelegate(1, hopped(0, 14, 1, 3), 2, 5), unjail(2, 2),
		cut(0, 15, all/3, all/7), grant(4, 11), tick(), create(6, 3, 3), cut(5, 20, all/2, 0), punish(5, 1), punish(1, 2), transfer(1, 0, 9), tick(), unjail(4, 4), tick(), delegate(3, 2, 50), tick(), tick(),
		undelegate(2, bare(1, 3), 5), redelegate(3, hopped(1, 16, 0, 1), 5, 0), cut(1, 3, all, all), tick(),
	}
}

// TestCopy: P18.2: a copy has the same ledger, and it and its original go on independently.
func TestCopy(t *testing.T) {
	x, y := scene(), scene()
	s := load(t, x)
	c := s.Copy()
	for _, do := range doings() {
		saved(t, "the copy", c, y)
		if want, _ := do.model(x); want.err != api.OK {
			t.Errorf("%s is refused: %v", do.name, want.err)
		}
		x = do.goes(t, s, x)
		other := s.Copy()
		saved(t, "a new copy", other, x)
		tick().goes(t, other, x)
		saved(t, "the original", s, x)
	}
	for _, do := range doings() {
		y = do.goes(t, c, y)
	}
	if !same(x, y) {
		t.Errorf("%s; the copy: %s", brief(x), brief(y))
	}
}

// TestKept: P18.2 and P18.3: what an operation told, and what was saved, stays as it is when the stake goes on.
func TestKept(t *testing.T) {
	x := scene()
	s := load(t, x)
	type step struct {
		got, want     told
		saved, behind api.Ledger
	}
	var steps []step
	for _, do := range doings() {
		want, behind := do.model(x)
		steps = append(steps, step{do.ask(s), want, s.Save(), behind})
		x = behind
	}
	for i, k := range steps {
		if !k.got.same(k.want) || !same(k.saved, k.behind) {
			t.Errorf("%s: %+v; want %+v", doings()[i].name, k.got, k.want)
		}
	}
}

// TestAsked: P18.2: Height, Tokens and Own of ledgers; the tokens are told in memory of their own.
func TestAsked(t *testing.T) {
	for _, x := range append(valids(), fullOfClasses(), roomier()) {
		s := load(t, x)
		tokens := s.Tokens()
		if len(tokens) != len(x.Validators) || s.Height() != x.Height {
			t.Fatalf("%s: %v, %d", brief(x), tokens, s.Height())
		}
		for v, y := range x.Validators {
			if n, err := holding.Tokens(x.Holding, v); tokens[v] != n || err != api.OK {
				t.Errorf("%s: Tokens: %d of %d; want %d", brief(x), tokens[v], v, n)
			}
			want, _ := holding.Own(x.Holding, y.Operator, v)
			if n, err := s.Own(v); n != want || err != api.OK {
				t.Errorf("%s: Own(%d): %d, %v; want %d", brief(x), v, n, err, want)
			}
		}
		for _, v := range []int{math.MinInt, -1, len(x.Validators), len(x.Validators) + 1, 32, 63, math.MaxInt} {
			if n, err := s.Own(v); n != 0 || err != api.ErrUnknown {
				t.Errorf("%s: Own(%d): %d, %v", brief(x), v, n, err)
			}
		}
		overwrite(tokens, great)
		saved(t, "asked", s, x)
		if again := s.Tokens(); slices.Contains(again, great) {
			t.Errorf("%s: Tokens: %v", brief(x), again)
		}
	}
}

// TestOwn: P18.2, written out: the tokens and the own stakes of scene.
func TestOwn(t *testing.T) {
	s := load(t, scene())
	if n := s.Tokens(); !slices.Equal(n, []uint64{95, 57, 33, 1, 5, 30}) {
		t.Errorf("Tokens: %v", n)
	}
	for v, want := range []uint64{50, 16, 33, 1, 5, 30} {
		if n, err := s.Own(v); n != want || err != api.OK {
			t.Errorf("Own(%d): %d, %v; want %d", v, n, err, want)
		}
	}
	// What the operator of 0 has elsewhere, and what others have in 0, does not count; each of its own positions does.
	s = load(t, with(scene(), lot(0, bare(0, 7), 8, 16), lot(0, hopped(0, 20, 5, 20), 3, 4), lot(1, bare(0, 8), 9, 9)))
	if n, err := s.Own(0); n != 61 || err != api.OK {
		t.Errorf("Own(0): %d, %v", n, err)
	}
}

// TestSupply: P18.4: no operation changes the supply of scene.
func TestSupply(t *testing.T) {
	x := scene()
	want, _ := bank.Supply(x.Bank)
	s := load(t, x)
	for _, do := range doings() {
		do.ask(s)
		if n, err := bank.Supply(s.Save().Bank); n != want || err != api.OK {
			t.Fatalf("%s: %d, %v; want %d", do.name, n, err, want)
		}
	}
}
