package queue_test

import (
	"bytes"
	"fmt"
	"slices"
	"testing"

	"distraint/api"
	"distraint/queue"
)

// told is what a call returns: each has some of these.
type told struct {
	queue  []api.Entry
	ripe   []api.Entry
	shaves []api.Shave
	bytes  []byte
	n      uint64
	err    api.Errno
}

func refused(err api.Errno) told { return told{err: err} }

func (a told) same(b told) bool {
	return slices.Equal(a.queue, b.queue) && slices.Equal(a.ripe, b.ripe) && slices.Equal(a.shaves, b.shaves) && bytes.Equal(a.bytes, b.bytes) && a.n == b.n && a.err == b.err
}

// String tells the numbers, and the lists that are not too long to read.
func (a told) String() string {
	return fmt.Sprintf("%s, ripe %s, %v, % x, %d, %v", brief(a.queue), brief(a.ripe), a.shaves[:min(100, len(a.shaves))], a.bytes[:min(100, len(a.bytes))], a.n, a.err)
}

func brief(l []api.Entry) string {
	if len(l) > 100 {
		return fmt.Sprintf("%d entries", len(l))
	}
	return fmt.Sprint(l)
}

// spare and done are marks, which no list has.
const (
	spare = -77
	done  = -99
)

// overwrite puts a mark into all memory of a list, its spare capacity too.
func overwrite(l []api.Entry, mark int) {
	l = l[:cap(l)]
	for i := range l {
		l[i] = entry(mark, bare(mark, 1), 1, 1)
	}
}

func has(l []api.Entry, mark int) bool {
	return slices.ContainsFunc(l[:cap(l)], func(x api.Entry) bool { return x.Owner == mark })
}

// roomy tells l in memory of its own, with marks in its spare capacity.
func roomy(l []api.Entry) []api.Entry {
	r := make([]api.Entry, len(l)+3)
	overwrite(r, spare)
	copy(r, l)
	return r[:len(l)]
}

// call is a call with its arguments, but for the list; what the chapter's words say of it for a queue; and whether they say that of any list.
type call struct {
	name string
	ask  func(l []api.Entry) told
	want func(l []api.Entry) told
	any  bool
}

// is: the call answers this, and so does the model; the list stays as it is, and what is told shares no memory with it.
func (c call) is(t *testing.T, l []api.Entry, want told) {
	t.Helper()
	if model := c.model(l); !model.same(want) {
		t.Errorf("%s of %s: the model: %v; want %v", c.name, brief(l), model, want)
	}
	c.tells(t, l, want)
}

// holds: the call answers what the chapter's words say.
func (c call) holds(t *testing.T, l []api.Entry) {
	t.Helper()
	c.tells(t, l, c.model(l))
}

func (c call) model(l []api.Entry) told {
	if err, _ := checked(l); err != api.OK && !c.any {
		return refused(err)
	}
	return c.want(l)
}

func (c call) tells(t *testing.T, l []api.Entry, want told) {
	t.Helper()
	mine := roomy(l)
	got := c.ask(mine)
	if !got.same(want) {
		t.Errorf("%s of %s: %v; want %v", c.name, brief(l), got, want)
	}
	if !slices.Equal(mine[:cap(mine)], roomy(l)[:cap(mine)]) {
		t.Errorf("%s changed %s, or what is behind it", c.name, brief(l))
	}
	c.apart(t, mine, got)
}

// apart: what was told has nothing of what is behind mine, and no memory of it; nor do the two lists that were told have any in common.
func (c call) apart(t *testing.T, mine []api.Entry, got told) {
	t.Helper()
	if has(got.queue, spare) || has(got.ripe, spare) {
		t.Errorf("%s hands out spare capacity", c.name)
	}
	kept := got
	kept.queue, kept.ripe = slices.Clone(got.queue), slices.Clone(got.ripe)
	overwrite(mine, done)
	if !got.same(kept) {
		t.Errorf("%s: what it told changes with what it was asked of", c.name)
	}
	overwrite(got.ripe, spare)
	if has(got.queue, spare) {
		t.Errorf("%s: what is written to the ripe entries shows in those that are left", c.name)
	}
	overwrite(got.queue, done-1)
	if has(got.ripe, done-1) {
		t.Errorf("%s: what is written to the entries that are left shows in the ripe ones", c.name)
	}
	if has(mine, spare) || has(mine, done-1) {
		t.Errorf("%s: what it told is in the memory of what it was asked of", c.name)
	}
}

// check also watches the list, of which Check tells nothing but a place.
func check(t *testing.T, l []api.Entry, want api.Errno, at int) {
	t.Helper()
	if err, i := checked(l); err != want || i != at {
		t.Errorf("Check(%s): the model: %v, %d; want %v, %d", brief(l), err, i, want, at)
	}
	mine := roomy(l)
	if err, i := queue.Check(mine); err != want || i != at {
		t.Errorf("Check(%s): %v, %d; want %v, %d", brief(l), err, i, want, at)
	}
	if !slices.Equal(mine[:cap(mine)], roomy(l)[:cap(mine)]) {
		t.Errorf("Check changed %s, or what is behind it", brief(l))
	}
}

func add(x api.Entry, limit int) call {
	return call{fmt.Sprintf("Add(%v, %d)", x, limit), func(l []api.Entry) told {
		after, err := queue.Add(l, x, limit)
		return told{queue: after, err: err}
	}, func(l []api.Entry) told { return wantAdd(l, x, limit) }, false}
}

func ripe(h, unbonding int) call {
	return call{fmt.Sprintf("Ripe(%d, %d)", h, unbonding), func(l []api.Entry) told {
		ripe, left, err := queue.Ripe(l, h, unbonding)
		return told{ripe: ripe, queue: left, err: err}
	}, func(l []api.Entry) told { return wantRipe(l, h, unbonding) }, false}
}

func cut(v, h int, ppb uint64) call {
	return call{fmt.Sprintf("Cut(%d, %d, %d)", v, h, ppb), func(l []api.Entry) told {
		after, shaves, sum, err := queue.Cut(l, v, h, ppb)
		return told{queue: after, shaves: shaves, n: sum, err: err}
	}, func(l []api.Entry) told { return wantCut(l, v, h, ppb) }, false}
}

func live(owner, v int) call {
	return call{fmt.Sprintf("Live(%d, %d)", owner, v), func(l []api.Entry) told {
		return told{n: uint64(queue.Live(l, owner, v))}
	}, func(l []api.Entry) told { return wantLive(l, owner, v) }, true}
}

func total() call {
	return call{"Total", func(l []api.Entry) told {
		n, err := queue.Total(l)
		return told{n: n, err: err}
	}, func(l []api.Entry) told { return told{n: sumOf(l).Uint64()} }, false}
}

func belonging(owner int) call {
	return call{fmt.Sprintf("Of(%d)", owner), func(l []api.Entry) told {
		return told{queue: queue.Of(l, owner)}
	}, func(l []api.Entry) told { return wantOf(l, owner) }, true}
}

func encoding() call {
	return call{"Bytes", func(l []api.Entry) told {
		b, err := queue.Bytes(l)
		return told{bytes: b, err: err}
	}, wantBytes, false}
}

// calls are all calls, with arguments that are right and ones that are not.
func calls() []call {
	x := entry(0, bare(2, 5), top, 1)
	return []call{
		add(x, 16), add(x, 1), add(x, 0), add(x, 17), add(cutTo(x, 0), 16), add(cutTo(x, 2), 16), add(entry(0, bare(2, 5), top, 0), 16), add(entry(64, bare(2, 5), top, 1), 16), add(entry(0, bare(2, 5), 1, 1), 16), add(entry(0, bare(2, 5), top, most), 16),
		ripe(1, 1), ripe(top, 1), ripe(19, 10), ripe(0, 1), ripe(1, 0), ripe(top+1, 1), ripe(1, 1<<20+1),
		cut(2, 9, all/2), cut(2, 9, all), cut(2, 9, 0), cut(32, 9, 0), cut(-1, 9, 0), cut(2, 0, 0), cut(2, top+1, 0), cut(2, 9, all+1),
		live(0, 2), live(9, 2), live(64, 32), live(-1, -1), live(done, done), live(spare, spare), total(),
		belonging(0), belonging(9), belonging(64), belonging(-1), belonging(done), belonging(spare), encoding(),
	}
}
