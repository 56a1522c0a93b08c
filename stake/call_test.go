package stake_test

import (
	"fmt"
	"slices"
	"testing"

	"distraint/api"
	"distraint/stake"
)

// told is what an operation returns: each has some of these.
type told struct {
	v    int
	n    uint64
	lot  api.Lot
	tock api.Tock
	toll api.Toll
	err  api.Errno
}

func refused(err api.Errno) told { return told{err: err} }

func (a told) same(b told) bool {
	return a.v == b.v && a.n == b.n && a.lot == b.lot && a.err == b.err && sameTock(a.tock, b.tock) && sameToll(a.toll, b.toll)
}

func sameTock(a, b api.Tock) bool {
	return a.Height == b.Height && slices.Equal(a.Paid, b.Paid) && slices.Equal(a.Hops, b.Hops) && slices.Equal(a.In, b.In) && slices.Equal(a.Out, b.Out)
}

func sameToll(a, b api.Toll) bool {
	return slices.Equal(a.Classes, b.Classes) && slices.Equal(a.Entries, b.Entries) && a.Bonded == b.Bonded && a.Unbonding == b.Unbonding && a.Kept == b.Kept && a.Burned == b.Burned
}

// cleared puts marks into all memory that was told, the spare capacity too.
func (a told) cleared() {
	overwrite(a.tock.Paid, entry(-9, bare(-9, -9), -9, 0, 0))
	overwrite(a.tock.Hops, jump(-9, -9, -9, -9))
	overwrite(a.tock.In, -9)
	overwrite(a.tock.Out, -9)
	overwrite(a.toll.Classes, api.Loss{Amount: great})
	overwrite(a.toll.Entries, api.Shave{At: -9})
}

func overwrite[T any](l []T, mark T) {
	l = l[:cap(l)]
	for i := range l {
		l[i] = mark
	}
}

// spoil puts marks into all memory of a ledger, the spare capacity too.
func spoil(x api.Ledger) {
	overwrite(x.Bank.Liquid, great)
	overwrite(x.Holding.Classes, class(bare(-9, -9), great, 0))
	overwrite(x.Holding.Positions, part(-9, bare(-9, -9), 0))
	overwrite(x.Entries, entry(-9, bare(-9, -9), -9, 0, 0))
	overwrite(x.Hops, jump(-9, -9, -9, -9))
	overwrite(x.Validators, api.Validator{Operator: -9})
}

// roomy tells x in memory of its own, with marks in the spare capacity of its lists.
func roomy(x api.Ledger) api.Ledger {
	x.Bank.Liquid = spaced(x.Bank.Liquid, great)
	x.Holding.Classes = spaced(x.Holding.Classes, class(bare(-7, -7), great, 0))
	x.Holding.Positions = spaced(x.Holding.Positions, part(-7, bare(-7, -7), 0))
	x.Entries = spaced(x.Entries, entry(-7, bare(-7, -7), -7, 0, 0))
	x.Hops = spaced(x.Hops, jump(-7, -7, -7, -7))
	x.Validators = spaced(x.Validators, api.Validator{Operator: -7})
	return x
}

func spaced[T any](l []T, mark T) []T {
	r := make([]T, len(l)+3)
	overwrite(r, mark)
	copy(r, l)
	return r[:len(l)]
}

// entire tells a ledger to the end of its lists' capacity.
func entire(x api.Ledger) api.Ledger {
	x.Bank.Liquid = x.Bank.Liquid[:cap(x.Bank.Liquid)]
	x.Holding.Classes, x.Holding.Positions = x.Holding.Classes[:cap(x.Holding.Classes)], x.Holding.Positions[:cap(x.Holding.Positions)]
	x.Entries, x.Hops, x.Validators = x.Entries[:cap(x.Entries)], x.Hops[:cap(x.Hops)], x.Validators[:cap(x.Validators)]
	return x
}

func same(a, b api.Ledger) bool {
	return a.Params == b.Params && a.Height == b.Height && slices.Equal(a.Bank.Liquid, b.Bank.Liquid) && a.Bank.Pools == b.Bank.Pools &&
		slices.Equal(a.Holding.Classes, b.Holding.Classes) && slices.Equal(a.Holding.Positions, b.Holding.Positions) &&
		slices.Equal(a.Entries, b.Entries) && slices.Equal(a.Hops, b.Hops) && slices.Equal(a.Validators, b.Validators)
}

// brief tells a ledger, if it is not too long to read.
func brief(x api.Ledger) string {
	if len(x.Holding.Positions)+len(x.Entries)+len(x.Hops)+len(x.Bank.Liquid) > 20 {
		return fmt.Sprintf("a ledger of %d positions, %d entries and %d hops at %d", len(x.Holding.Positions), len(x.Entries), len(x.Hops), x.Height)
	}
	return fmt.Sprintf("%+v", x)
}

// load makes a stake of x.
func load(t testing.TB, x api.Ledger) *stake.Stake {
	t.Helper()
	s, err := stake.Load(x)
	if err != api.OK || s == nil {
		t.Fatalf("Load(%s): %v", brief(x), err)
	}
	return s
}

// saved: the stake has this ledger, which it tells in memory of its own each time.
func saved(t *testing.T, name string, s *stake.Stake, want api.Ledger) {
	t.Helper()
	one, other := s.Save(), s.Save()
	if !same(one, want) {
		t.Errorf("%s: %s; want %s", name, brief(one), brief(want))
	}
	spoil(one)
	if !same(other, want) || !same(s.Save(), want) {
		t.Errorf("%s: what is written to what Save told shows elsewhere", name)
	}
	if s.Height() != want.Height {
		t.Errorf("%s: Height: %d; want %d", name, s.Height(), want.Height)
	}
}

// call is an operation with its arguments, and what the chapter's words say of it.
type call struct {
	name string
	ask  func(s *stake.Stake) told
	want func(m *model) told
	// A Cut's arguments, but for what is kept.
	v, h int
	ppb  uint64
}

// model tells what the chapter's words say of the operation for a ledger: what it tells, and the ledger behind it.
func (c call) model(x api.Ledger) (told, api.Ledger) {
	m := modelOf(x)
	want := c.want(m)
	if want.err != api.OK {
		return refused(want.err), x
	}
	return want, m.ledger()
}

// is: the operation tells this of a ledger, and so does the model, and behind it the stake is as the model is: with an error, as it was.
func (c call) is(t *testing.T, x api.Ledger, want told) api.Ledger {
	t.Helper()
	model, _ := c.model(x)
	if !model.same(want) {
		t.Errorf("%s of %s: the model: %+v; want %+v", c.name, brief(x), model, want)
	}
	return c.holds(t, x)
}

// refuses: the operation tells this error of a ledger.
func (c call) refuses(t *testing.T, x api.Ledger, err api.Errno) {
	t.Helper()
	c.is(t, x, refused(err))
}

// holds: the operation does what the chapter's words say of a ledger. It tells the ledger behind it.
func (c call) holds(t *testing.T, x api.Ledger) api.Ledger {
	t.Helper()
	s := load(t, x)
	return c.goes(t, s, x)
}

// goes: the operation does what the chapter's words say of a stake that has the ledger x.
func (c call) goes(t *testing.T, s *stake.Stake, x api.Ledger) api.Ledger {
	t.Helper()
	before := s.Save()
	want, after := c.model(x)
	got := c.ask(s)
	if !got.same(want) {
		t.Errorf("%s of %s: %+v; want %+v", c.name, brief(x), got, want)
	}
	if !same(before, x) {
		t.Errorf("%s of %s: what was saved ahead of it has changed", c.name, brief(x))
	}
	got.cleared()
	saved(t, c.name, s, after)
	return after
}

func transfer(from, to int, a uint64) call {
	return call{name: fmt.Sprintf("Transfer(%d, %d, %d)", from, to, a), ask: func(s *stake.Stake) told {
		return refused(s.Transfer(from, to, a))
	}, want: func(m *model) told { return m.transfer(from, to, a) }}
}

func create(from int, minSelf, a uint64) call {
	return call{name: fmt.Sprintf("Create(%d, %d, %d)", from, minSelf, a), ask: func(s *stake.Stake) told {
		v, n, err := s.Create(from, minSelf, a)
		return told{v: v, n: n, err: err}
	}, want: func(m *model) told { return m.create(from, minSelf, a) }}
}

func delegate(from, v int, a uint64) call {
	return call{name: fmt.Sprintf("Delegate(%d, %d, %d)", from, v, a), ask: func(s *stake.Stake) told {
		n, err := s.Delegate(from, v, a)
		return told{n: n, err: err}
	}, want: func(m *model) told { return m.delegate(from, v, a) }}
}

func undelegate(from int, of api.Stamp, x uint64) call {
	return call{name: fmt.Sprintf("Undelegate(%d, %v, %d)", from, of, x), ask: func(s *stake.Stake) told {
		n, err := s.Undelegate(from, of, x)
		return told{n: n, err: err}
	}, want: func(m *model) told { return m.undelegate(from, of, x) }}
}

func redelegate(from int, of api.Stamp, x uint64, to int) call {
	return call{name: fmt.Sprintf("Redelegate(%d, %v, %d, %d)", from, of, x, to), ask: func(s *stake.Stake) told {
		lot, err := s.Redelegate(from, of, x, to)
		return told{lot: lot, err: err}
	}, want: func(m *model) told { return m.redelegate(from, of, x, to) }}
}

func unjail(from, v int) call {
	return call{name: fmt.Sprintf("Unjail(%d, %d)", from, v), ask: func(s *stake.Stake) told {
		return refused(s.Unjail(from, v))
	}, want: func(m *model) told { return m.unjail(from, v) }}
}

func tick() call {
	return call{name: "Tick", ask: func(s *stake.Stake) told {
		tock, err := s.Tick()
		return told{tock: tock, err: err}
	}, want: (*model).tick}
}

func cut(v, h int, ppb, keep uint64) call {
	return call{name: fmt.Sprintf("Cut(%d, %d, %d, %d)", v, h, ppb, keep), ask: func(s *stake.Stake) told {
		toll, err := s.Cut(v, h, ppb, keep)
		return told{toll: toll, err: err}
	}, want: func(m *model) told { return m.cut(v, h, ppb, keep) }, v: v, h: h, ppb: ppb}
}

func punish(v, class int) call {
	return call{name: fmt.Sprintf("Punish(%d, %d)", v, class), ask: func(s *stake.Stake) told {
		return refused(s.Punish(v, class))
	}, want: func(m *model) told { return m.punish(v, class) }}
}

func grant(account int, a uint64) call {
	return call{name: fmt.Sprintf("Grant(%d, %d)", account, a), ask: func(s *stake.Stake) told {
		return refused(s.Grant(account, a))
	}, want: func(m *model) told { return m.grant(account, a) }}
}
