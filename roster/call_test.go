package roster_test

import (
	"bytes"
	"fmt"
	"slices"
	"testing"

	"distraint/api"
	"distraint/roster"
)

// told is what a call returns: each has some of these.
type told struct {
	roster []api.Validator
	each   []bool
	bytes  []byte
	n      int
	is     bool
	err    api.Errno
}

func refused(err api.Errno) told { return told{err: err} }

func (a told) same(b told) bool {
	return slices.Equal(a.roster, b.roster) && slices.Equal(a.each, b.each) && bytes.Equal(a.bytes, b.bytes) && a.n == b.n && a.is == b.is && a.err == b.err
}

func (a told) String() string {
	return fmt.Sprintf("%s, %v, % x, %d, %v, %v", brief(a.roster), a.each, a.bytes, a.n, a.is, a.err)
}

// brief tells a roster that is not too long to read.
func brief(l []api.Validator) string {
	if len(l) > 64 {
		return fmt.Sprintf("%d validators", len(l))
	}
	return fmt.Sprint(l)
}

// spare and done are marks, which no list has.
const (
	spare = -77
	done  = -99
)

// overwrite puts a mark into all memory of a list, its spare capacity too.
func overwrite(l []api.Validator, mark int) {
	l = l[:cap(l)]
	for i := range l {
		l[i] = one(mark, great, mark, mark, both)
	}
}

func has(l []api.Validator, mark int) bool {
	return slices.Contains(l[:cap(l)], one(mark, great, mark, mark, both))
}

// roomy tells l in memory of its own, with marks in its spare capacity.
func roomy(l []api.Validator) []api.Validator {
	r := make([]api.Validator, len(l)+3)
	overwrite(r, spare)
	copy(r, l)
	return r[:len(l)]
}

// call is a call with its arguments, but for the list; what the chapter's words say of it for a roster; and whether they say that of any list.
type call struct {
	name string
	ask  func(l []api.Validator) told
	want func(l []api.Validator) told
	any  bool
}

// is: the call answers this, and so does the model; the list stays as it is, and what is told shares no memory with it.
func (c call) is(t *testing.T, l []api.Validator, want told) {
	t.Helper()
	if model := c.model(l); !model.same(want) {
		t.Errorf("%s of %s: the model: %v; want %v", c.name, brief(l), model, want)
	}
	c.tells(t, l, want)
}

// holds: the call answers what the chapter's words say.
func (c call) holds(t *testing.T, l []api.Validator) {
	t.Helper()
	c.tells(t, l, c.model(l))
}

func (c call) model(l []api.Validator) told {
	if err, _ := checked(l); err != api.OK && !c.any {
		return refused(err)
	}
	return c.want(l)
}

func (c call) tells(t *testing.T, l []api.Validator, want told) {
	t.Helper()
	mine := roomy(l)
	got := c.ask(mine)
	if !got.same(want) {
		t.Errorf("%s of %s: %v; want %v", c.name, brief(l), got, want)
	}
	if !slices.Equal(mine[:cap(mine)], roomy(l)[:cap(mine)]) {
		t.Errorf("%s changed %s, or what is behind it", c.name, brief(l))
	}
	c.apart(t, mine, got)
}

// apart: what was told has nothing of what is behind mine, and no memory of it.
func (c call) apart(t *testing.T, mine []api.Validator, got told) {
	t.Helper()
	if has(got.roster, spare) {
		t.Errorf("%s hands out spare capacity", c.name)
	}
	kept := slices.Clone(got.roster)
	overwrite(mine, done)
	if !slices.Equal(got.roster, kept) {
		t.Errorf("%s: what it told changes with what it was asked of", c.name)
	}
	overwrite(got.roster, spare)
	if has(mine, spare) {
		t.Errorf("%s: what is written to what it told shows in what it was asked of", c.name)
	}
}

// check: Check of a list tells this, and so does the model; the list stays as it is.
func check(t *testing.T, l []api.Validator, err api.Errno, at int) {
	t.Helper()
	if want, place := checked(l); want != err || place != at {
		t.Errorf("the model: %s: %v at %d; want %v at %d", brief(l), want, place, err, at)
	}
	mine := roomy(l)
	if is, place := roster.Check(mine); is != err || place != at {
		t.Errorf("Check(%s): %v, %d; want %v, %d", brief(l), is, place, err, at)
	}
	if !slices.Equal(mine[:cap(mine)], roomy(l)[:cap(mine)]) {
		t.Errorf("Check changed %s, or what is behind it", brief(l))
	}
}

func create(operator int, minSelf uint64) call {
	return call{fmt.Sprintf("Create(%d, %d)", operator, minSelf), func(l []api.Validator) told {
		after, n, err := roster.Create(l, operator, minSelf)
		return told{roster: after, n: n, err: err}
	}, func(l []api.Validator) told { return wantCreate(l, operator, minSelf) }, false}
}

func find(operator int) call {
	return call{fmt.Sprintf("Find(%d)", operator), func(l []api.Validator) told {
		n, is := roster.Find(l, operator)
		return told{n: n, is: is}
	}, func(l []api.Validator) told { return wantFind(l, operator) }, true}
}

func refuse(v int) call {
	return call{fmt.Sprintf("Refuse(%d)", v), func(l []api.Validator) told {
		return refused(roster.Refuse(l, v))
	}, func(l []api.Validator) told { return wantRefuse(l, v) }, true}
}

func free() call {
	return call{"Free", func(l []api.Validator) told { return told{each: roster.Free(l)} }, wantFree, true}
}

func acting() call {
	return call{"Active", func(l []api.Validator) told { return told{each: roster.Active(l)} }, wantActive, true}
}

// choose watches the list of bools too, and what is behind it.
func choose(on ...bool) call {
	return call{fmt.Sprintf("Choose(%v)", on), func(l []api.Validator) told {
		mine := append(slices.Clone(on), true, false, true)
		before := slices.Clone(mine)
		after, err := roster.Choose(l, mine[:len(on)])
		if !slices.Equal(mine, before) {
			return refused(-1)
		}
		return told{roster: after, err: err}
	}, func(l []api.Validator) told { return wantChoose(l, on) }, false}
}

func jail(v, until int) call {
	return call{fmt.Sprintf("Jail(%d, %d)", v, until), func(l []api.Validator) told {
		after, err := roster.Jail(l, v, until)
		return told{roster: after, err: err}
	}, func(l []api.Validator) told { return wantJail(l, v, until) }, false}
}

func unjail(v, by, h int) call {
	return call{fmt.Sprintf("Unjail(%d, %d, %d)", v, by, h), func(l []api.Validator) told {
		after, err := roster.Unjail(l, v, by, h)
		return told{roster: after, err: err}
	}, func(l []api.Validator) told { return wantUnjail(l, v, by, h) }, false}
}

func punished(v, class int) call {
	return call{fmt.Sprintf("Punished(%d, %d)", v, class), func(l []api.Validator) told {
		return refused(roster.Punished(l, v, class))
	}, func(l []api.Validator) told { return wantPunished(l, v, class) }, false}
}

func punish(v, class, until int) call {
	return call{fmt.Sprintf("Punish(%d, %d, %d)", v, class, until), func(l []api.Validator) told {
		after, err := roster.Punish(l, v, class, until)
		return told{roster: after, err: err}
	}, func(l []api.Validator) told { return wantPunish(l, v, class, until) }, false}
}

func encoding() call {
	return call{"Bytes", func(l []api.Validator) told {
		b, err := roster.Bytes(l)
		return told{bytes: b, err: err}
	}, func(l []api.Validator) told { return told{bytes: encoded(l)} }, false}
}

// calls are all calls, with arguments that are right and ones that are not.
func calls() []call {
	l := []call{free(), acting(), encoding(), choose(), choose(true), choose(false, false), choose(true, false), choose(make([]bool, 10)...), choose(make([]bool, 32)...)}
	for _, operator := range []int{0, 3, 4, 5, 15, 63, 64, -1, done, spare} {
		l = append(l, create(operator, 1), create(operator, 0), create(operator, great), find(operator))
	}
	for _, v := range []int{0, 1, 2, 4, 8, 9, 31, 32, 33, -1} {
		l = append(l, refuse(v), jail(v, 30), jail(v, 0), jail(v, 1), jail(v, top), jail(v, top+1))
		l = append(l, unjail(v, 5, 30), unjail(v, 0, top), unjail(v, 15, 99), unjail(v, 63, 0), unjail(v, -1, top))
		for class := range 4 {
			l = append(l, punished(v, class), punish(v, class, 30), punish(v, class, 0), punish(v, class, top), punish(v, class, top+1))
		}
	}
	return l
}
