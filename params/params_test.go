package params_test

import (
	"math"
	"math/rand/v2"
	"reflect"
	"slices"
	"testing"

	"distraint/api"
	"distraint/params"
)

// row is a row of the chapter's table.
type row struct {
	field, name        string
	least, most, usual uint64
}

// rows are the chapter's table.
func rows() []row {
	return []row{
		{"Unbonding", "unbonding", 1, 1048576, 100},
		{"MaxAge", "maxage", 0, 1048576, 100},
		{"EpochLen", "epochlen", 1, 1000, 10},
		{"Window", "window", 1, 256, 8},
		{"Entries", "entries", 1, 16, 7},
		{"MaxActive", "maxactive", 1, 32, 8},
		{"JailTime", "jailtime", 1, 1048576, 20},
		{"Base", "base", 0, 1000000000, 50000000},
		{"Mult", "mult", 0, 1000, 3},
		{"CorrWindow", "corrwindow", 1, 1048576, 50},
		{"Reward", "reward", 0, 1000000000, 100000000},
	}
}

// place tells the field i of p by the name that it has in api.
func place(p *api.Params, i int) reflect.Value {
	return reflect.ValueOf(p).Elem().FieldByName(rows()[i].field)
}

// value tells the field i of p, the bits of an int as those of a number without a sign.
func value(p api.Params, i int) uint64 {
	if v := place(&p, i); v.CanUint() {
		return v.Uint()
	}
	return uint64(place(&p, i).Int())
}

// with tells p with n in the field i, as value tells it.
func with(p api.Params, i int, n uint64) api.Params {
	if v := place(&p, i); v.CanUint() {
		v.SetUint(n)
	} else {
		v.SetInt(int64(n))
	}
	return p
}

// filled tells the params of these values.
func filled(values []uint64) (p api.Params) {
	for i, n := range values {
		p = with(p, i, n)
	}
	return
}

// column tells one value of each row.
func column(of func(x row) uint64) (values []uint64) {
	for _, x := range rows() {
		values = append(values, of(x))
	}
	return
}

func usual(x row) uint64 { return x.usual }
func least(x row) uint64 { return x.least }
func most(x row) uint64  { return x.most }

// free are valid params in which every field may be anything within its bounds: Unbonding is 2^20, MaxAge 0, and no two values are alike.
func free() api.Params {
	return filled([]uint64{1048576, 0, 999, 255, 15, 31, 77, 1, 998, 3, 123456789})
}

// in tells numbers within the bounds of the field i: all edges, and some between.
func in(i int) []uint64 {
	x := rows()[i]
	return []uint64{x.least, x.least + 1, (x.least + x.most) / 2, x.most - 1, x.most}
}

// out tells numbers that are not within the bounds of the field i: of a field that is an int the upper ones are negative.
func out(i int) []uint64 {
	x := rows()[i]
	l := []uint64{x.most + 1, x.most + 2, 1 << 31, 1 << 32, 1<<32 + x.least, 1<<32 + x.most, 1<<63 - 1, 1 << 63, 1<<63 + 1, 1<<63 + x.most, math.MaxUint64 - x.most, math.MaxUint64 - 1, math.MaxUint64}
	if x.least > 0 {
		l = append(l, x.least-1)
	}
	return l
}

// wanted tells what Check should tell, by the table.
func wanted(p api.Params) (api.Errno, int) {
	for i, x := range rows() {
		if n := value(p, i); n < x.least || n > x.most {
			return api.ErrRange, i
		}
	}
	if p.MaxAge > p.Unbonding {
		return api.ErrOrder, 1
	}
	return api.OK, 0
}

// checks: Check tells this, and every other call that checks its params has the same error.
func checks(t *testing.T, p api.Params, err api.Errno, at int) {
	t.Helper()
	if e, i := wanted(p); e != err || i != at {
		t.Fatalf("the table tells %v, %d of %+v; want %v, %d", e, i, p, err, at)
	}
	if e, i := params.Check(p); e != err || i != at {
		t.Errorf("Check(%+v): %v, %d; want %v, %d", p, e, i, err, at)
	}
	if err == api.OK {
		return
	}
	for _, x := range rows() {
		gets(t, p, x.name, 0, err)
		for _, n := range []uint64{x.usual, x.most + 1} {
			sets(t, p, x.name, n, api.Params{}, err)
		}
	}
	for _, name := range []string{"", "Base", "x"} {
		gets(t, p, name, 0, err)
		sets(t, p, name, 1, api.Params{}, err)
	}
	if s, e := params.Text(p); s != "" || e != err {
		t.Errorf("Text(%+v): %q, %v; want %v", p, s, e, err)
	}
	if b, e := params.Bytes(p); len(b) != 0 || e != err {
		t.Errorf("Bytes(%+v): % x, %v; want %v", p, b, e, err)
	}
}

// valid are params that are valid: of each field each edge, all at once at the edges, and mixed ones, which are the same in every run.
func valid() []api.Params {
	l := []api.Params{params.Default(), free(), filled(column(usual)), filled(column(least)), filled(column(most))}
	for i := range rows() {
		for _, n := range in(i) {
			l = append(l, with(free(), i, n))
		}
	}
	for _, n := range in(1) {
		l = append(l, with(with(free(), 1, n), 0, max(n, 1)))
	}
	source := rand.New(rand.NewPCG(7, 7))
	for range 150 {
		p := filled(column(func(x row) uint64 { return (x.least + source.Uint64N(x.most-x.least+1)) >> source.IntN(20) }))
		for i, x := range rows() {
			p = with(p, i, max(x.least, value(p, i)))
		}
		p.MaxAge = min(p.MaxAge, p.Unbonding)
		l = append(l, p)
	}
	return l
}

// TestNames: P7.1, and that each list is new.
func TestNames(t *testing.T) {
	var want []string
	for _, x := range rows() {
		want = append(want, x.name)
	}
	l := params.Names()
	if !slices.Equal(l, want) {
		t.Errorf("Names: %q; want %q", l, want)
	}
	for i := range l[:cap(l)] {
		l[:cap(l)][i] = "x"
	}
	if l = params.Names(); !slices.Equal(l, want) {
		t.Errorf("Names: %q, after an earlier result was overwritten; want %q", l, want)
	}
}

// TestDefault: P7.1.
func TestDefault(t *testing.T) {
	if p, want := params.Default(), filled(column(usual)); p != want {
		t.Errorf("Default: %+v; want %+v", p, want)
	}
	checks(t, params.Default(), api.OK, 0)
}

// TestRows: the table of these tests reaches all fields that there are.
func TestRows(t *testing.T) {
	var p api.Params
	if n := reflect.TypeOf(p).NumField(); n != len(rows()) {
		t.Errorf("params have %d fields; want %d", n, len(rows()))
	}
	for i := range rows() {
		p = with(p, i, uint64(i)+100)
	}
	for i := range rows() {
		if n := value(p, i); n != uint64(i)+100 {
			t.Errorf("field %d: %d", i, n)
		}
	}
}

// TestChecksValid: P7.1.
func TestChecksValid(t *testing.T) {
	for _, p := range valid() {
		checks(t, p, api.OK, 0)
	}
}

// TestChecksBounds: P7.1: one field out of bounds, whatever it is.
func TestChecksBounds(t *testing.T) {
	for i := range rows() {
		for _, n := range out(i) {
			checks(t, with(free(), i, n), api.ErrRange, i)
			checks(t, with(params.Default(), i, n), api.ErrRange, i)
		}
	}
	p := params.Default()
	p.MaxAge = math.MinInt
	checks(t, p, api.ErrRange, 1)
	p.MaxAge = math.MaxInt
	checks(t, p, api.ErrRange, 1)
}

// TestChecksFirst: P7.1: of several fields out of bounds the first is told, in whichever direction each is wrong.
func TestChecksFirst(t *testing.T) {
	for i := range rows() {
		all := free()
		for j := i; j < len(rows()); j++ {
			all = with(all, j, math.MaxUint64)
			for _, n := range out(i) {
				for _, m := range []uint64{rows()[j].most + 1, math.MaxUint64} {
					checks(t, with(with(free(), j, m), i, n), api.ErrRange, i)
				}
			}
		}
		checks(t, all, api.ErrRange, i)
	}
	checks(t, api.Params{}, api.ErrRange, 0)
}

// TestChecksOrder: P7.1: MaxAge as great as Unbonding, and one more, alone and where any other field is out of bounds.
func TestChecksOrder(t *testing.T) {
	for _, n := range []uint64{1, 2, 100, 1<<20 - 1} {
		p := with(with(free(), 0, n), 1, n)
		checks(t, p, api.OK, 0)
		checks(t, with(p, 1, n-1), api.OK, 0)
		for _, m := range []uint64{n + 1, 1 << 20} {
			old := with(p, 1, m)
			checks(t, old, api.ErrOrder, 1)
			for i := range rows() {
				for _, wrong := range out(i) {
					checks(t, with(old, i, wrong), api.ErrRange, i)
				}
			}
		}
	}
	p := with(free(), 1, 1<<20)
	checks(t, p, api.OK, 0)
	checks(t, with(p, 1, 1<<20+1), api.ErrRange, 1)
	checks(t, with(p, 0, 1<<20-1), api.ErrOrder, 1)
	checks(t, with(with(p, 0, 0), 1, 0), api.ErrRange, 0)
}
