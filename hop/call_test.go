package hop_test

import (
	"bytes"
	"fmt"
	"slices"
	"testing"

	"distraint/api"
	"distraint/hop"
)

// told is what a call returns: each has some of these.
type told struct {
	hops  []api.Hop
	ripe  []api.Hop
	bytes []byte
	n     int
	is    bool
	err   api.Errno
}

func refused(err api.Errno) told { return told{err: err} }

func (a told) same(b told) bool {
	return slices.Equal(a.hops, b.hops) && slices.Equal(a.ripe, b.ripe) && bytes.Equal(a.bytes, b.bytes) && a.n == b.n && a.is == b.is && a.err == b.err
}

// String tells the numbers, and the lists that are not too long to read.
func (a told) String() string {
	return fmt.Sprintf("%s, ripe %s, % x, %d, %v, %v", brief(a.hops), brief(a.ripe), a.bytes[:min(100, len(a.bytes))], a.n, a.is, a.err)
}

func brief(l []api.Hop) string {
	if len(l) > 100 {
		return fmt.Sprintf("%d hops", len(l))
	}
	return fmt.Sprint(l)
}

// spare and done are marks, which no list has.
const (
	spare = -77
	done  = -99
)

// overwrite puts a mark into all memory of a list, its spare capacity too.
func overwrite(l []api.Hop, mark int) {
	l = l[:cap(l)]
	for i := range l {
		l[i] = one(mark, mark, mark, mark)
	}
}

func has(l []api.Hop, mark int) bool {
	return slices.Contains(l[:cap(l)], one(mark, mark, mark, mark))
}

// roomy tells l in memory of its own, with marks in its spare capacity.
func roomy(l []api.Hop) []api.Hop {
	r := make([]api.Hop, len(l)+3)
	overwrite(r, spare)
	copy(r, l)
	return r[:len(l)]
}

// call is a call with its arguments, but for the list; what the chapter's words say of it for a list of hops; and whether they say that of any list.
type call struct {
	name string
	ask  func(l []api.Hop) told
	want func(l []api.Hop) told
	any  bool
}

// is: the call answers this, and so does the model; the list stays as it is, and what is told shares no memory with it.
func (c call) is(t *testing.T, l []api.Hop, want told) {
	t.Helper()
	if model := c.model(l); !model.same(want) {
		t.Errorf("%s of %s: the model: %v; want %v", c.name, brief(l), model, want)
	}
	c.tells(t, l, want)
}

// holds: the call answers what the chapter's words say.
func (c call) holds(t *testing.T, l []api.Hop) {
	t.Helper()
	c.tells(t, l, c.model(l))
}

func (c call) model(l []api.Hop) told {
	if err, _ := checked(l); err != api.OK && !c.any {
		return refused(err)
	}
	return c.want(l)
}

func (c call) tells(t *testing.T, l []api.Hop, want told) {
	t.Helper()
	mine := roomy(l)
	got := c.ask(mine)
	if !got.same(want) {
		t.Errorf("%s of %s: %v; want %v", c.name, brief(l), got, want)
	}
	if !slices.Equal(mine[:cap(mine)], roomy(l)[:cap(mine)]) {
		t.Errorf("%s changed %s, or what is behind it", c.name, brief(l))
	}
	c.apart(t, mine, got)
}

// apart: what was told has nothing of what is behind mine, and no memory of it; nor do the two lists that were told have any in common.
func (c call) apart(t *testing.T, mine []api.Hop, got told) {
	t.Helper()
	if has(got.hops, spare) || has(got.ripe, spare) {
		t.Errorf("%s hands out spare capacity", c.name)
	}
	kept := got
	kept.hops, kept.ripe = slices.Clone(got.hops), slices.Clone(got.ripe)
	overwrite(mine, done)
	if !got.same(kept) {
		t.Errorf("%s: what it told changes with what it was asked of", c.name)
	}
	overwrite(got.ripe, spare)
	if has(got.hops, spare) {
		t.Errorf("%s: what is written to the ripe hops shows in those that are left", c.name)
	}
	overwrite(got.hops, done-1)
	if has(got.ripe, done-1) {
		t.Errorf("%s: what is written to the hops that are left shows in the ripe ones", c.name)
	}
	if has(mine, spare) || has(mine, done-1) {
		t.Errorf("%s: what it told is in the memory of what it was asked of", c.name)
	}
}

// check also watches the list, of which Check tells nothing but a place.
func check(t *testing.T, l []api.Hop, want api.Errno, at int) {
	t.Helper()
	if err, i := checked(l); err != want || i != at {
		t.Errorf("Check(%s): the model: %v, %d; want %v, %d", brief(l), err, i, want, at)
	}
	mine := roomy(l)
	if err, i := hop.Check(mine); err != want || i != at {
		t.Errorf("Check(%s): %v, %d; want %v, %d", brief(l), err, i, want, at)
	}
	if !slices.Equal(mine[:cap(mine)], roomy(l)[:cap(mine)]) {
		t.Errorf("Check changed %s, or what is behind it", brief(l))
	}
}

func count(owner, src, dst int) call {
	return call{fmt.Sprintf("Count(%d, %d, %d)", owner, src, dst), func(l []api.Hop) told {
		return told{n: hop.Count(l, owner, src, dst)}
	}, func(l []api.Hop) told { return wantCount(l, owner, src, dst) }, true}
}

func into(owner, dst int) call {
	return call{fmt.Sprintf("Into(%d, %d)", owner, dst), func(l []api.Hop) told {
		return told{hops: hop.Into(l, owner, dst)}
	}, func(l []api.Hop) told { return wantInto(l, owner, dst) }, true}
}

func add(x api.Hop, limit int) call {
	return call{fmt.Sprintf("Add(%v, %d)", x, limit), func(l []api.Hop) told {
		after, err := hop.Add(l, x, limit)
		return told{hops: after, err: err}
	}, func(l []api.Hop) told { return wantAdd(l, x, limit) }, false}
}

func ripe(h, unbonding int) call {
	return call{fmt.Sprintf("Ripe(%d, %d)", h, unbonding), func(l []api.Hop) told {
		ripe, left, err := hop.Ripe(l, h, unbonding)
		return told{ripe: ripe, hops: left, err: err}
	}, func(l []api.Hop) told { return wantRipe(l, h, unbonding) }, false}
}

func next(unbonding int) call {
	return call{fmt.Sprintf("Next(%d)", unbonding), func(l []api.Hop) told {
		n, is := hop.Next(l, unbonding)
		return told{n: n, is: is}
	}, func(l []api.Hop) told { return wantNext(l, unbonding) }, true}
}

func encoding() call {
	return call{"Bytes", func(l []api.Hop) told {
		b, err := hop.Bytes(l)
		return told{bytes: b, err: err}
	}, func(l []api.Hop) told { return told{bytes: encoded(l)} }, false}
}

// calls are all calls, with arguments that are right and ones that are not.
func calls() []call {
	x := one(0, 1, 2, top)
	return []call{
		count(0, 1, 2), count(0, 2, 1), count(7, 8, 9), count(64, 32, 33), count(-1, -1, -1), count(done, done, done), count(spare, spare, spare),
		into(0, 2), into(2, 0), into(7, 9), into(64, 32), into(-1, -1), into(done, done), into(spare, spare),
		add(x, 16), add(x, 1), add(x, 2), add(x, 0), add(x, 17), add(one(62, 30, 5, top), 1), add(one(0, 1, 2, 1), 16), add(one(64, 1, 2, top), 16), add(one(0, 1, 1, top), 1), add(one(0, 1, 2, top+1), 1), add(api.Hop{}, 1),
		ripe(1, 1), ripe(top, 1), ripe(19, 10), ripe(0, 1), ripe(1, 0), ripe(top+1, 1), ripe(1, longest+1),
		next(1), next(longest), next(0), next(-1), next(longest + 1),
		encoding(),
	}
}
