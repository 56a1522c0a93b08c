package holding_test

import (
	"fmt"
	"slices"
	"testing"

	"distraint/api"
	"distraint/holding"
)

// told is what a call returns: each has some of these.
type told struct {
	holding   api.Holding
	losses    []api.Loss
	positions []api.Position
	classes   []api.Class
	pool      api.Pool
	n         uint64
	is        bool
	err       api.Errno
}

func refused(err api.Errno) told { return told{err: err} }

func same(a, b api.Holding) bool {
	return slices.Equal(a.Classes, b.Classes) && slices.Equal(a.Positions, b.Positions)
}

func (a told) same(b told) bool {
	return same(a.holding, b.holding) && slices.Equal(a.losses, b.losses) && slices.Equal(a.positions, b.positions) && slices.Equal(a.classes, b.classes) &&
		a.pool == b.pool && a.n == b.n && a.is == b.is && a.err == b.err
}

func (a told) copied() told {
	a.holding, a.losses, a.positions, a.classes = copied(a.holding), slices.Clone(a.losses), slices.Clone(a.positions), slices.Clone(a.classes)
	return a
}

// lists tells all classes and all positions that are told, to the end of their capacity.
func (a told) lists() (classes []api.Class, positions []api.Position) {
	return slices.Concat(a.holding.Classes[:cap(a.holding.Classes)], a.classes[:cap(a.classes)]), slices.Concat(a.holding.Positions[:cap(a.holding.Positions)], a.positions[:cap(a.positions)])
}

// overwrite puts a mark into all memory of a list, its spare capacity too.
func overwrite[T any](l []T, mark T) {
	l = l[:cap(l)]
	for i := range l {
		l[i] = mark
	}
}

// spare and done are marks, which no holding has.
const (
	spare = -77
	done  = -99
)

// roomy tells h in memory of its own, with marks in the spare capacity of its lists.
func roomy(h api.Holding) api.Holding {
	r := api.Holding{Classes: make([]api.Class, len(h.Classes)+3), Positions: make([]api.Position, len(h.Positions)+3)}
	overwrite(r.Classes, class(bare(spare, 1), 1, 1))
	overwrite(r.Positions, part(spare, bare(1, 1), 1))
	copy(r.Classes, h.Classes)
	copy(r.Positions, h.Positions)
	r.Classes, r.Positions = r.Classes[:len(h.Classes)], r.Positions[:len(h.Positions)]
	return r
}

// entire tells a holding to the end of its capacity.
func entire(h api.Holding) api.Holding {
	return api.Holding{Classes: h.Classes[:cap(h.Classes)], Positions: h.Positions[:cap(h.Positions)]}
}

// call is a call with its arguments, but for the holding; and what the chapter's words say of it for a holding that is valid.
type call struct {
	name string
	ask  func(h api.Holding) told
	want func(h api.Holding) told
}

// is: the call answers this, and so does the model; the holding, made by roomy, stays as it is, and what is told shares no memory with it.
func (c call) is(t *testing.T, h api.Holding, want told) {
	t.Helper()
	if model := c.model(h); !model.same(want) {
		t.Errorf("%s of %s: the model: %v; want %v", c.name, brief(h), model, want)
	}
	c.tells(t, h, want)
}

// holds: the call answers what the chapter's words say.
func (c call) holds(t *testing.T, h api.Holding) {
	t.Helper()
	c.tells(t, h, c.model(h))
}

func (c call) model(h api.Holding) told {
	if err := checked(h); err != api.OK {
		return refused(err)
	}
	return c.want(h)
}

func (c call) tells(t *testing.T, h api.Holding, want told) {
	t.Helper()
	mine := roomy(h)
	got := c.ask(mine)
	if !got.same(want) {
		t.Errorf("%s of %s: %v; want %v", c.name, brief(h), got, want)
	}
	if !same(entire(mine), entire(roomy(h))) {
		t.Errorf("%s changed %s, or what is behind it", c.name, brief(h))
	}
	c.apart(t, mine, got)
}

// apart: what was told has nothing of what is behind the lists of mine, and no memory of them.
func (c call) apart(t *testing.T, mine api.Holding, got told) {
	t.Helper()
	l, p := got.lists()
	if slices.ContainsFunc(l, func(c api.Class) bool { return c.Stamp.Validator == spare }) || slices.ContainsFunc(p, func(p api.Position) bool { return p.Owner == spare }) {
		t.Errorf("%s hands out spare capacity", c.name)
	}
	kept := got.copied()
	overwrite(mine.Classes, class(bare(done, 1), 1, 1))
	overwrite(mine.Positions, part(done, bare(1, 1), 1))
	if !got.same(kept) {
		t.Errorf("%s: what it told changes with what it was asked of", c.name)
	}
	for _, l := range [][]api.Class{got.holding.Classes, got.classes} {
		overwrite(l, class(bare(spare, 1), 1, 1))
	}
	for _, l := range [][]api.Position{got.holding.Positions, got.positions} {
		overwrite(l, part(spare, bare(1, 1), 1))
	}
	one, other := entire(mine).Classes, entire(mine).Positions
	if slices.ContainsFunc(one, func(c api.Class) bool { return c.Stamp.Validator != done }) || slices.ContainsFunc(other, func(p api.Position) bool { return p.Owner != done }) {
		t.Errorf("%s: what it told is in the memory of what it was asked of", c.name)
	}
}

// brief tells a holding, if it is not too long to read.
func brief(h api.Holding) string {
	if len(h.Classes)+len(h.Positions) > 100 {
		return fmt.Sprintf("%d classes and %d positions", len(h.Classes), len(h.Positions))
	}
	return fmt.Sprint(h)
}

func check() call {
	return call{"Check", func(h api.Holding) told { return refused(holding.Check(h)) }, func(h api.Holding) told { return told{} }}
}

func join(owner int, s api.Stamp, a uint64) call {
	return call{fmt.Sprintf("Join(%d, %v, %d)", owner, s, a), func(h api.Holding) told {
		after, n, err := holding.Join(h, owner, s, a)
		return told{holding: after, n: n, err: err}
	}, func(h api.Holding) told { return wantJoin(h, owner, s, a) }}
}

func leave(owner int, s api.Stamp, x uint64) call {
	return call{fmt.Sprintf("Leave(%d, %v, %d)", owner, s, x), func(h api.Holding) told {
		after, n, err := holding.Leave(h, owner, s, x)
		return told{holding: after, n: n, err: err}
	}, func(h api.Holding) told { return wantLeave(h, owner, s, x) }}
}

func cut(validator, height int, ppb uint64) call {
	return call{fmt.Sprintf("Cut(%d, %d, %d)", validator, height, ppb), func(h api.Holding) told {
		after, losses, n, err := holding.Cut(h, validator, height, ppb)
		return told{holding: after, losses: losses, n: n, err: err}
	}, func(h api.Holding) told { return wantCut(h, validator, height, ppb) }}
}

func value(owner int, s api.Stamp) call {
	return call{fmt.Sprintf("Value(%d, %v)", owner, s), func(h api.Holding) told {
		n, err := holding.Value(h, owner, s)
		return told{n: n, err: err}
	}, func(h api.Holding) told { return wantValue(h, owner, s) }}
}

func own(owner, validator int) call {
	return call{fmt.Sprintf("Own(%d, %d)", owner, validator), func(h api.Holding) told {
		n, err := holding.Own(h, owner, validator)
		return told{n: n, err: err}
	}, func(h api.Holding) told { return wantOwn(h, owner, validator) }}
}

func tokens(validator int) call {
	return call{fmt.Sprintf("Tokens(%d)", validator), func(h api.Holding) told {
		n, err := holding.Tokens(h, validator)
		return told{n: n, err: err}
	}, func(h api.Holding) told { return wantTokens(h, validator) }}
}

func total() call {
	return call{"All", func(h api.Holding) told {
		n, err := holding.All(h)
		return told{n: n, err: err}
	}, func(h api.Holding) told { return told{n: supply(h).Uint64()} }}
}

func belonging(owner int) call {
	return call{fmt.Sprintf("Of(%d)", owner), func(h api.Holding) told {
		l, err := holding.Of(h, owner)
		return told{positions: l, err: err}
	}, func(h api.Holding) told { return wantOf(h, owner) }}
}

func exposed(validator, height int) call {
	return call{fmt.Sprintf("Exposed(%d, %d)", validator, height), func(h api.Holding) told {
		l, err := holding.Exposed(h, validator, height)
		return told{classes: l, err: err}
	}, func(h api.Holding) told { return wantExposed(h, validator, height) }}
}

// calls are all calls that return the error of Check first, with arguments that are right and ones that are not.
func calls() []call {
	s := bare(2, 5)
	return []call{
		check(), total(),
		join(0, s, 10), join(64, s, 10), join(0, bare(2, 0), 10), join(0, s, 0), join(0, bare(30, 30), 1), join(0, s, m),
		leave(0, s, 1), leave(9, s, 1), leave(0, s, m), leave(0, s, 0), leave(64, bare(2, 0), 0),
		cut(2, 5, all/2), cut(2, 5, all), cut(32, 5, 0), cut(2, 0, 0), cut(2, 5, all+1), cut(30, 5, 0),
		value(0, s), value(9, s), value(64, bare(2, 0)), own(0, 2), own(9, 2), own(64, 32), tokens(2), tokens(9), tokens(32),
		belonging(0), belonging(9), belonging(64), exposed(2, 5), exposed(2, 1), exposed(32, 0),
	}
}
