package active_test

import (
	"fmt"
	"slices"
	"testing"

	"distraint/active"
)

// told is what a call returns: each has some of these.
type told struct {
	numbers, more []int
	each          []bool
	n             uint64
	some          bool
}

func (a told) same(b told) bool {
	return slices.Equal(a.numbers, b.numbers) && slices.Equal(a.more, b.more) && slices.Equal(a.each, b.each) && a.n == b.n && a.some == b.some
}

// copied tells the same, in memory of its own.
func (a told) copied() told {
	a.numbers, a.more, a.each = slices.Clone(a.numbers), slices.Clone(a.more), slices.Clone(a.each)
	return a
}

func (a told) String() string {
	return fmt.Sprintf("%v, %v, %s, %d, %v", a.numbers, a.more, digits(a.each), a.n, a.some)
}

// digits tells bools as digits.
func digits(l []bool) string {
	s := []byte{}
	for _, x := range l {
		if x {
			s = append(s, '1')
		} else {
			s = append(s, '0')
		}
	}
	return string(s)
}

// given is what a call is asked of.
type given struct {
	tokens      []uint64
	first, next []bool
}

func (g given) String() string {
	if len(g.tokens)+len(g.first)+len(g.next) > 400 {
		return "many"
	}
	return fmt.Sprintf("%v, %s, %s", g.tokens, digits(g.first), digits(g.next))
}

// roomy tells the same in memory of its own, with other elements in its spare capacity.
func (g given) roomy() given {
	return given{
		append(slices.Clone(g.tokens), 77, m, 1, 0)[:len(g.tokens)],
		append(slices.Clone(g.first), true, false, true)[:len(g.first)],
		append(slices.Clone(g.next), true, true, false)[:len(g.next)],
	}
}

// memory tells a copy of all that is in it, and behind it.
func (g given) memory() given {
	return given{slices.Clone(g.tokens[:cap(g.tokens)]), slices.Clone(g.first[:cap(g.first)]), slices.Clone(g.next[:cap(g.next)])}
}

func (g given) same(o given) bool {
	return slices.Equal(g.tokens, o.tokens) && slices.Equal(g.first, o.first) && slices.Equal(g.next, o.next)
}

// overwrite changes each element of a list, and of its spare capacity.
func overwrite[T any](l []T, change func(x T) T) {
	l = l[:cap(l)]
	for i := range l {
		l[i] = change(l[i])
	}
}

func other(x bool) bool    { return !x }
func beyond(x int) int     { return x ^ 1<<40 }
func more(x uint64) uint64 { return x ^ 1<<40 }

// call is a call, what it is asked of, and what the chapter's words say of it.
type call struct {
	name string
	given
	ask  func(g given) told
	want told
}

// is: the call answers this, and so does the model.
func (c call) is(t *testing.T, want told) {
	t.Helper()
	if !c.want.same(want) {
		t.Errorf("%s of %v: the model: %v; want %v", c.name, c.given, c.want, want)
	}
	c.holds(t)
}

// holds: the call answers what the chapter's words say; what it is asked of stays as it is, and what is told shares no memory with it.
func (c call) holds(t *testing.T) {
	t.Helper()
	mine := c.given.roomy()
	before := mine.memory()
	got := c.ask(mine)
	if !got.same(c.want) {
		t.Errorf("%s of %v: %v; want %v", c.name, c.given, got, c.want)
	}
	if !mine.memory().same(before) {
		t.Errorf("%s changed %v, or what is behind it", c.name, c.given)
	}
	c.apart(t, mine, got)
}

// apart: what was told has no memory of mine, and no two of its lists share any.
func (c call) apart(t *testing.T, mine given, got told) {
	t.Helper()
	kept := got.copied()
	overwrite(mine.tokens, more)
	overwrite(mine.first, other)
	overwrite(mine.next, other)
	if !got.same(kept) {
		t.Errorf("%s: what it told changes with what it was asked of", c.name)
	}
	before := mine.memory()
	overwrite(got.each, other)
	overwrite(got.numbers, beyond)
	if !slices.Equal(got.more, kept.more) {
		t.Errorf("%s: one of its lists changes with the other", c.name)
	}
	overwrite(got.numbers, beyond)
	overwrite(got.more, beyond)
	if !slices.Equal(got.numbers, kept.numbers) {
		t.Errorf("%s: one of its lists changes with the other", c.name)
	}
	if !mine.memory().same(before) {
		t.Errorf("%s: what is written to what it told shows in what it was asked of", c.name)
	}
}

func rank(tokens []uint64, may []bool) call {
	return call{"Rank", given{tokens: tokens, first: may}, func(g given) told {
		return told{numbers: active.Rank(g.tokens, g.first)}
	}, wantRank(tokens, may)}
}

func choose(tokens []uint64, may []bool, most int) call {
	return call{fmt.Sprintf("Choose at most %d", most), given{tokens: tokens, first: may}, func(g given) told {
		return told{each: active.Choose(g.tokens, g.first, most)}
	}, wantChoose(tokens, may, most)}
}

func diff(was, is []bool) call {
	return call{"Diff", given{first: was, next: is}, func(g given) told {
		in, out := active.Diff(g.first, g.next)
		return told{numbers: in, more: out}
	}, wantDiff(was, is)}
}

func sum(tokens []uint64, in []bool) call {
	return call{"Sum", given{tokens: tokens, first: in}, func(g given) told {
		return told{n: active.Sum(g.tokens, g.first)}
	}, wantSum(tokens, in)}
}

func floor(tokens []uint64, in []bool) call {
	return call{"Floor", given{tokens: tokens, first: in}, func(g given) told {
		n, some := active.Floor(g.tokens, g.first)
		return told{n: n, some: some}
	}, wantFloor(tokens, in)}
}
