package seal_test

import (
	"math/rand/v2"
	"runtime"
	"slices"
	"testing"

	"distraint/api"
	"distraint/seal"
)

// same tells whether a table is the one that is wanted, and the error too.
func same(t *testing.T, call string, is, want []api.Seal, err, wantErr api.Errno) {
	t.Helper()
	if !slices.Equal(is, want) || err != wantErr {
		t.Errorf("%s: %d seals, %v; want %d, %v", call, len(is), err, len(want), wantErr)
	}
}

// roomy is a copy of a table with spare capacity, full of seals that no table may have.
func roomy(l []api.Seal) []api.Seal {
	space := make([]api.Seal, len(l)+8)
	for i := copy(space, l); i < len(space); i++ {
		space[i].Validator = -7
	}
	return space[:len(l)]
}

// untouched: a list has what it had, behind its end too, after a result was overwritten.
func untouched(t *testing.T, call string, l, before, result []api.Seal) {
	t.Helper()
	rest := result[:cap(result)]
	for i := range rest {
		rest[i].Validator = -9
	}
	space := l[:cap(l)]
	for i, x := range space {
		if i < len(before) && x != before[i] || i >= len(before) && x != (api.Seal{Validator: -7}) {
			t.Fatalf("%s changed its list of %d, or shares its memory: %v at %d", call, len(l), x, i)
		}
	}
}

func adds(t *testing.T, l []api.Seal, x api.Seal, want []api.Seal, wantErr api.Errno) {
	t.Helper()
	mine := roomy(l)
	is, err := seal.Add(mine, x)
	same(t, "Add", is, want, err, wantErr)
	untouched(t, "Add", mine, l, is)
}

func joins(t *testing.T, a, b, want []api.Seal, wantErr api.Errno) {
	t.Helper()
	first, second := roomy(a), roomy(b)
	is, err := seal.Join(first, second)
	same(t, "Join", is, want, err, wantErr)
	untouched(t, "Join", first, a, is)
	untouched(t, "Join", second, b, is)
}

// TestAdds: P5.2: each seal of a table is put where it was missing, be that first, last or between, and is kept where it is.
func TestAdds(t *testing.T) {
	for _, n := range []int{1, 2, 3, 4, 7, 64} {
		whole := row(n)
		for i, x := range whole {
			adds(t, slices.Delete(row(n), i, i+1), x, whole, api.OK)
			adds(t, whole, x, whole, api.OK)
		}
	}
	l := all(validators())
	for i := 0; i < len(l); i += 7 {
		adds(t, slices.Delete(slices.Clone(l), i, i+1), l[i], l, api.OK)
		adds(t, l, l[i], l, api.OK)
	}
}

// TestAddsToNone: P5.2: seals at the ends of the ranges.
func TestAddsToNone(t *testing.T) {
	for _, x := range all(validators()) {
		adds(t, nil, x, list(x), api.OK)
		adds(t, []api.Seal{}, x, list(x), api.OK)
	}
	for _, x := range all(noValidators()) {
		adds(t, nil, x, nil, api.ErrRange)
		adds(t, row(3), x, nil, api.ErrRange)
	}
}

// TestAddsToFull: P5.2: to 4,095 seals one is added, to 4,096 only one that is there.
func TestAddsToFull(t *testing.T) {
	full := row(api.MaxSeals)
	for _, i := range []int{0, 1, 2047, 2048, 4094, 4095} {
		adds(t, slices.Delete(row(api.MaxSeals), i, i+1), full[i], full, api.OK)
		adds(t, full, full[i], full, api.OK)
	}
	above := full[4095]
	above.Tag++
	for _, x := range list(vdt(0, 0, 1), vdt(5, 1, 1), above) {
		adds(t, full, x, nil, api.ErrLong)
	}
	adds(t, full, vdt(32, 0, 0), nil, api.ErrRange)
	adds(t, full, vdt(-1, 0, 0), nil, api.ErrRange)
}

// wrongs are lists that are no tables, by what Check tells of them.
func wrongs() map[api.Errno][][]api.Seal {
	a, b := vdt(1, 1, 1), vdt(1, 1, 2)
	full := row(api.MaxSeals)
	turned := row(api.MaxSeals)
	turned[4094], turned[4095] = turned[4095], turned[4094]
	outside := row(api.MaxSeals)
	outside[4095].Validator = 32
	return map[api.Errno][][]api.Seal{
		api.ErrRange: {{vdt(-1, 0, 0)}, {a, vdt(32, 0, 0)}, outside},
		api.ErrOrder: {{a, a}, {b, a}, {a, vdt(0, 9, 9)}, turned},
		api.ErrLong:  {row(4097), append(full, full[4095]), make([]api.Seal, 5000)},
	}
}

// TestAddsToNoTable: P5.2: the error of Check comes first, whatever is added.
func TestAddsToNoTable(t *testing.T) {
	for err, lists := range wrongs() {
		for _, l := range lists {
			for _, x := range list(vdt(1, 1, 1), vdt(-1, 0, 0), vdt(32, 0, 0), vdt(31, 0xff, 9), l[0], l[len(l)-1]) {
				adds(t, l, x, nil, err)
			}
		}
	}
}

// TestJoinsNoTables: P5.2: the error of the first list, then that of the second.
func TestJoinsNoTables(t *testing.T) {
	for err, lists := range wrongs() {
		for _, l := range lists {
			for _, good := range [][]api.Seal{nil, row(3), row(api.MaxSeals)} {
				joins(t, l, good, nil, err)
				joins(t, good, l, nil, err)
			}
			joins(t, l, l, nil, err)
			for _, others := range wrongs() {
				joins(t, l, others[0], nil, err)
			}
		}
	}
}

// joined tells what two tables are together, by a map and a sort.
func joined(a, b []api.Seal) (l []api.Seal) {
	in := map[api.Seal]bool{}
	for _, x := range slices.Concat(a, b) {
		if !in[x] {
			l = append(l, x)
		}
		in[x] = true
	}
	slices.SortFunc(l, seal.Compare)
	return l
}

// part is the seals of a table that a mask of bits, used again and again, tells.
func part(l []api.Seal, mask uint) (some []api.Seal) {
	for i, x := range l {
		if mask>>(i%16)&1 == 1 {
			some = append(some, x)
		}
	}
	return some
}

// TestJoins: P5.2, of all pairs of parts of a small table: one of them may be empty, end before the other, or be in it.
func TestJoins(t *testing.T) {
	whole := list(vdt(0, 0, 0), vdt(0, 0, 1), vdt(0, 1, 0), vdt(5, 0, 0), vdt(31, 0xff, 1<<63))
	for m := range uint(32) {
		for n := range uint(32) {
			joins(t, part(whole, m), part(whole, n), part(whole, m|n), api.OK)
		}
	}
}

// TestJoinsFull: P5.2: 4,096 seals, and one more.
func TestJoinsFull(t *testing.T) {
	long := row(4097)
	for _, n := range []int{0, 1, 2, 2048, 4095, 4096} {
		joins(t, long[:n], long[n:4096], long[:4096], api.OK)
		if n > 0 {
			joins(t, long[:n], long[n:], nil, api.ErrLong)
			joins(t, long[n:], long[:n], nil, api.ErrLong)
		}
		joins(t, long[n:4096], long[:4096], long[:4096], api.OK)
	}
	even, odd := part(long, 0x5555), part(long, 0xaaaa)
	joins(t, even, odd, nil, api.ErrLong)
	joins(t, odd, even, nil, api.ErrLong)
	joins(t, even[1:], odd, long[1:], api.OK)
	joins(t, even[:len(even)-1], odd, long[:4096], api.OK)
	joins(t, odd[1:], even, slices.Delete(row(4097), 1, 2), api.OK)
	joins(t, long[:4096], long[1:], nil, api.ErrLong)
	joins(t, long[1:], long[:4096], nil, api.ErrLong)
	joins(t, long[:4096], row(3000), nil, api.ErrLong)
}

// mixed are tables of many sizes, some of which have much in common.
func mixed() [][]api.Seal {
	r := rand.New(rand.NewPCG(5, 14))
	pool := all(upTo(32))
	l := [][]api.Seal{nil, row(40), row(4096)}
	for range 10 {
		l = append(l, part(pool, uint(r.IntN(1<<16))), part(pool[:100], uint(r.IntN(1<<16))))
	}
	return l
}

// TestJoinsMixed: P5.2 and P5.4: two tables together are what they are the other way round.
func TestJoinsMixed(t *testing.T) {
	for _, a := range mixed() {
		for _, b := range mixed() {
			want := joined(a, b)
			err := api.OK
			if len(want) > api.MaxSeals {
				want, err = nil, api.ErrLong
			}
			joins(t, a, b, want, err)
			joins(t, b, a, want, err)
		}
	}
}

// TestJoinsThree: P5.4: of three tables, it does not count which two are joined first.
func TestJoinsThree(t *testing.T) {
	pool := all(upTo(32))
	r := rand.New(rand.NewPCG(5, 4))
	for range 50 {
		a, b, c := part(pool, uint(r.IntN(1<<16))), part(pool, uint(r.IntN(1<<16))), part(pool, uint(r.IntN(1<<16)))
		ab, err := seal.Join(a, b)
		if err != api.OK {
			t.Fatal(err)
		}
		bc, err := seal.Join(b, c)
		if err != api.OK {
			t.Fatal(err)
		}
		want := joined(joined(a, b), c)
		joins(t, ab, c, want, api.OK)
		joins(t, a, bc, want, api.OK)
	}
}

// TestJoinsParts: P5.4: a table and itself, or a part of it, are the table.
func TestJoinsParts(t *testing.T) {
	for _, l := range append(mixed(), all(validators())) {
		joins(t, l, l, l, api.OK)
		for _, mask := range []uint{0, 1, 0x8000, 0x5555, 0xff00, 0x7fff, 0xfffe} {
			joins(t, l, part(l, mask), l, api.OK)
			joins(t, part(l, mask), l, l, api.OK)
		}
		for n := 0; n < len(l); n += 1 + len(l)/5 {
			joins(t, l, l[:n], l, api.OK)
			joins(t, l[n:], l, l, api.OK)
		}
	}
}

// TestAddsAsJoins: P5.2 and P5.4: a seal that is added is a table of one that is joined.
func TestAddsAsJoins(t *testing.T) {
	whole := all(upTo(32))
	l := part(whole, 0x1234)
	for i := 0; i < len(whole); i += 5 {
		want, err := seal.Join(l, list(whole[i]))
		adds(t, l, whole[i], want, err)
	}
}

// TestLeavesNothing: a join that ends early, as there is too much, ends all that it began.
func TestLeavesNothing(t *testing.T) {
	long := row(4097)
	before := runtime.NumGoroutine()
	for range 50 {
		joins(t, long[:4000], long[10:], nil, api.ErrLong)
		joins(t, long[10:], long[:4000], nil, api.ErrLong)
		joins(t, long[:40], long[20:80], long[:80], api.OK)
		joins(t, long[20:80], long[:40], long[:80], api.OK)
	}
	if after := runtime.NumGoroutine(); after > before {
		t.Errorf("%d goroutines; before: %d", after, before)
	}
}
