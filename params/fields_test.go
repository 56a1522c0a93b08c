package params_test

import (
	"math"
	"slices"
	"strings"
	"testing"

	"distraint/api"
	"distraint/params"
)

func gets(t *testing.T, p api.Params, name string, n uint64, err api.Errno) {
	t.Helper()
	if is, e := params.Get(p, name); is != n || e != err {
		t.Errorf("Get(%+v, %q): %d, %v; want %d, %v", p, name, is, e, n, err)
	}
}

func sets(t *testing.T, p api.Params, name string, n uint64, want api.Params, err api.Errno) {
	t.Helper()
	if is, e := params.Set(p, name, n); is != want || e != err {
		t.Errorf("Set(%+v, %q, %d): %+v, %v; want %+v, %v", p, name, n, is, e, want, err)
	}
}

// noNames are texts that are no field's name, though some are nearly one. (What is left of corrwindow may be another one.)
func noNames() []string {
	l := []string{"", " ", "0", "1", "x", "name", "unbonding maxage", "unbonding\nmaxage", "base,mult", "\x00", "\xff", "mаxage"}
	for _, x := range rows() {
		l = append(l, x.field, strings.ToUpper(x.name), strings.ToUpper(x.name[:1])+x.name[1:], x.name[:len(x.name)-1]+strings.ToUpper(x.name[len(x.name)-1:]))
		l = append(l, " "+x.name, x.name+" ", x.name+"\n", "\t"+x.name, x.name+"\x00", x.name+"s", x.name+x.name)
		for i := range x.name {
			l = append(l, x.name[:i], x.name[i+1:])
		}
	}
	return slices.DeleteFunc(l, func(s string) bool { return s == "window" })
}

// TestGets: P7.2: each name of params in which no two fields are alike, and of all valid ones.
func TestGets(t *testing.T) {
	for _, p := range valid() {
		for i, x := range rows() {
			gets(t, p, x.name, value(p, i), api.OK)
		}
	}
}

// TestUnknown: P7.2: a name that is none, whatever is to be set.
func TestUnknown(t *testing.T) {
	for _, name := range noNames() {
		for _, p := range []api.Params{params.Default(), free()} {
			gets(t, p, name, 0, api.ErrUnknown)
			for _, n := range []uint64{0, 1, 100, 1 << 20, math.MaxUint64} {
				sets(t, p, name, n, api.Params{}, api.ErrUnknown)
			}
		}
	}
}

// TestSets: P7.2 and P7.5: each field, within and out of its bounds, with all others as they were.
func TestSets(t *testing.T) {
	for i, x := range rows() {
		for _, n := range in(i) {
			want := with(free(), i, n)
			sets(t, free(), x.name, n, want, api.OK)
			gets(t, want, x.name, n, api.OK)
		}
		for _, n := range out(i) {
			sets(t, free(), x.name, n, api.Params{}, api.ErrRange)
			sets(t, params.Default(), x.name, n, api.Params{}, api.ErrRange)
		}
	}
}

// TestSetsOrder: P7.2: MaxAge up to Unbonding, and one more, by either of the two; a value out of bounds is told first.
func TestSetsOrder(t *testing.T) {
	for _, n := range []uint64{1, 2, 100, 1<<20 - 1} {
		p := with(with(free(), 0, n), 1, n)
		sets(t, p, "unbonding", n, p, api.OK)
		sets(t, p, "maxage", n, p, api.OK)
		sets(t, p, "unbonding", n+1, with(p, 0, n+1), api.OK)
		sets(t, p, "maxage", n-1, with(p, 1, n-1), api.OK)
		sets(t, p, "maxage", 0, with(p, 1, 0), api.OK)
		sets(t, p, "maxage", n+1, api.Params{}, api.ErrOrder)
		sets(t, p, "maxage", 1<<20, api.Params{}, api.ErrOrder)
		sets(t, p, "maxage", 1<<20+1, api.Params{}, api.ErrRange)
		sets(t, p, "unbonding", 0, api.Params{}, api.ErrRange)
		sets(t, p, "unbonding", 1<<20+1, api.Params{}, api.ErrRange)
		if n > 1 {
			sets(t, p, "unbonding", n-1, api.Params{}, api.ErrOrder)
			sets(t, p, "unbonding", 1, api.Params{}, api.ErrOrder)
		}
	}
}

// TestSetsAll: P7.5: from params to others, field by field.
func TestSetsAll(t *testing.T) {
	l := valid()
	for k, want := range l {
		p := l[(k*7+1)%len(l)]
		p.MaxAge, p.Unbonding = 0, api.MaxPeriod
		for i := len(rows()) - 1; i >= 0; i-- { // MaxAge is set ahead of Unbonding, which is no less then
			old := p
			var err api.Errno
			p, err = params.Set(old, rows()[i].name, value(want, i))
			if err != api.OK {
				t.Fatalf("Set(%+v, %q, %d): %v", old, rows()[i].name, value(want, i), err)
			}
			for j, x := range rows() {
				if j == i {
					gets(t, p, x.name, value(want, i), api.OK)
				} else {
					gets(t, p, x.name, value(old, j), api.OK)
				}
			}
		}
		if p != want {
			t.Errorf("%+v, set field by field; want %+v", p, want)
		}
	}
}

// TestExamples: the chapter's table, its first two rows.
func TestExamples(t *testing.T) {
	d := params.Default()
	checks(t, d, api.OK, 0)
	old, low := d, d
	old.MaxAge = 101
	low.Unbonding, low.MaxAge = 0, -1
	checks(t, old, api.ErrOrder, 1)
	checks(t, low, api.ErrRange, 0)
	checks(t, api.Params{}, api.ErrRange, 0)
	gets(t, d, "base", 50000000, api.OK)
	gets(t, d, "Base", 0, api.ErrUnknown)
	sets(t, d, "unbonding", 99, api.Params{}, api.ErrOrder)
	sets(t, d, "mult", 1001, api.Params{}, api.ErrRange)
	want := d
	want.Reward = 0
	sets(t, d, "reward", 0, want, api.OK)
	gets(t, want, "reward", 0, api.OK)
}
