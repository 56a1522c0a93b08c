package seal_test

import (
	"bytes"
	"encoding/binary"
	"math"
	"slices"
	"testing"

	"distraint/api"
	"distraint/seal"
)

// vdt is the seal v d t of the chapter's table: its validator, its digest's first byte, its tag.
func vdt(v int, d byte, tag uint64) api.Seal {
	return api.Seal{Validator: v, Digest: api.Hash{d}, Tag: tag}
}

func list(l ...api.Seal) []api.Seal { return l }

// The lists are in their order. They have the ends of the ranges, and what is just and far beyond.
func validators() []int { return []int{0, 1, 2, 30, 31} }
func noValidators() []int {
	return []int{math.MinInt, -1 << 32, -32, -1, 32, 33, 1 << 8, 1 << 32, math.MaxInt}
}
func tags() []uint64 {
	return []uint64{0, 1, 127, 128, 1<<32 - 1, 1<<63 - 1, 1 << 63, math.MaxUint64}
}

// digests are some of which many differ in one byte alone: the first, the last, or one in the middle.
func digests() []api.Hash {
	var full api.Hash
	for i := range full {
		full[i] = 0xff
	}
	nearly := full
	nearly[31] = 0xfe
	return []api.Hash{{}, {31: 1}, {31: 0x7f}, {31: 0x80}, {15: 1}, {15: 1, 31: 1}, {0: 1}, {0: 1, 31: 1}, {0: 0x7f}, {0: 0x80}, nearly, full}
}

// all are the seals of some validators, in their order if these are.
func all(validators []int) (l []api.Seal) {
	for _, v := range validators {
		for _, d := range digests() {
			for _, tag := range tags() {
				l = append(l, api.Seal{Validator: v, Digest: d, Tag: tag})
			}
		}
	}
	return l
}

// row is a table of n seals, of which as many differ in their tags alone as in their digests, and each validator has about as many.
func row(n int) []api.Seal {
	l := make([]api.Seal, n)
	for i := range l {
		l[i].Validator = i * 32 / max(n, 1)
		binary.BigEndian.PutUint32(l[i].Digest[28:], uint32(i/2))
		l[i].Tag = uint64(i%2) << 63
	}
	return l
}

// TestCompares: P5.1: among all seals, those of no validator too, each is less than the ones behind it.
func TestCompares(t *testing.T) {
	wrong := noValidators()
	l := all(slices.Concat(wrong[:4], validators()[:2], validators()[3:], wrong[4:]))
	for i, a := range l {
		for j, b := range l {
			want := 0
			if i < j {
				want = -1
			} else if i > j {
				want = 1
			}
			if is := seal.Compare(a, b); is != want {
				t.Fatalf("Compare(%v, %v): %d; want %d", a, b, is, want)
			}
		}
	}
}

// TestComparesDigests: P5.1: digests are compared byte by byte, each byte as a number without a sign, whatever the tag is.
func TestComparesDigests(t *testing.T) {
	for i := range 32 {
		for j := range 32 {
			a, b := api.Seal{Validator: 3, Tag: 9}, api.Seal{Validator: 3, Tag: 2}
			a.Digest[i], b.Digest[j] = 0x80, 0x7f
			want := 1
			if i > j {
				want = -1
			}
			if is, back := seal.Compare(a, b), seal.Compare(b, a); is != want || back != -want {
				t.Errorf("Compare(%v, %v): %d, other way %d; want %d", a, b, is, back, want)
			}
		}
	}
}

// lengths are lengths of tables: none, few, and up to the limit.
func lengths() []int { return []int{0, 1, 2, 3, 5, 64, 4095, 4096} }

// TestChecks: P5.1, of tables.
func TestChecks(t *testing.T) {
	tables := [][]api.Seal{nil, {}, all(validators())}
	for _, n := range lengths() {
		tables = append(tables, row(n))
	}
	for _, l := range tables {
		before := slices.Clone(l)
		if err, at := seal.Check(l); err != api.OK || at != 0 {
			t.Errorf("Check of a table of %d: %v, %d", len(l), err, at)
		}
		if !slices.Equal(l, before) {
			t.Errorf("Check changed a table of %d", len(l))
		}
	}
}

func checks(t *testing.T, l []api.Seal, err api.Errno, at int) {
	t.Helper()
	if is, where := seal.Check(l); is != err || where != at {
		t.Errorf("Check of %d seals: %v, %d; want %v, %d", len(l), is, where, err, at)
	}
}

// TestFindsWrong: P5.1, of lists that are wrong in one place: the first one, the last one, or one between.
func TestFindsWrong(t *testing.T) {
	for _, n := range []int{1, 2, 3, 9, 4096} {
		for _, at := range []int{0, 1, n / 2, n - 2, n - 1} {
			if at < 0 || at >= n {
				continue
			}
			for _, v := range noValidators() {
				l := row(n)
				l[at].Validator = v
				checks(t, l, api.ErrRange, at)
			}
			if at == 0 {
				continue
			}
			l := row(n)
			l[at] = l[at-1]
			checks(t, l, api.ErrOrder, at)
			l = row(n)
			l[at-1], l[at] = l[at], l[at-1]
			checks(t, l, api.ErrOrder, at)
		}
	}
}

// TestFindsFirst: P5.1: of several wrong ones the first is told, and of a seal that is neither valid nor in order, the former.
func TestFindsFirst(t *testing.T) {
	good, low, high := vdt(1, 0, 0), vdt(-1, 0, 0), vdt(32, 0, 0)
	checks(t, list(good, low), api.ErrRange, 1)
	checks(t, list(good, good, low), api.ErrOrder, 1)
	checks(t, list(good, high, good, good), api.ErrRange, 1)
	checks(t, list(high, high), api.ErrRange, 0)
	checks(t, list(low, good, good), api.ErrRange, 0)
	checks(t, list(good, vdt(2, 0, 0), good, high), api.ErrOrder, 2)
	checks(t, list(good, vdt(2, 0, 0), vdt(2, 0, 0), good), api.ErrOrder, 2)
	// Only neighbours count: the last one is less than the first.
	checks(t, list(vdt(3, 0, 0), vdt(2, 0, 0), vdt(2, 0, 1)), api.ErrOrder, 1)
}

// TestFindsTooMany: P5.1: too many seals come before all else.
func TestFindsTooMany(t *testing.T) {
	for _, n := range []int{4097, 4098, 10000} {
		checks(t, row(n), api.ErrLong, 4096)
		checks(t, make([]api.Seal, n), api.ErrLong, 4096)
		l := row(n)
		l[0].Validator = -1
		checks(t, l, api.ErrLong, 4096)
	}
}

// shuffled are lists that are tables and ones that are not.
func shuffled() [][]api.Seal {
	l := all(slices.Concat(noValidators(), validators()))
	back := slices.Clone(l)
	slices.Reverse(back)
	twice := slices.Concat(all(validators()), all(validators()))
	alike := list(vdt(32, 1, 1), vdt(32, 1, 1), vdt(3, 1, 1), vdt(3, 1, 1), vdt(3, 0, 1), vdt(32, 1, 1))
	return [][]api.Seal{nil, {}, all(validators()), l, back, twice, row(4096), row(5000), alike, alike[:1]}
}

// TestHas: P5.2, of any list: each of its elements is in it, and what differs in one field is only if it is another element.
func TestHas(t *testing.T) {
	for _, l := range shuffled() {
		in := map[api.Seal]bool{}
		for _, x := range l {
			in[x] = true
		}
		for i := 0; i < len(l); i += 1 + len(l)/97 {
			x := l[i]
			if !seal.Has(l, x) {
				t.Errorf("a list of %d has not its element %d", len(l), i)
			}
			of, first, last, tag := x, x, x, x
			of.Validator ^= 1
			first.Digest[0] ^= 1
			last.Digest[31] ^= 1
			tag.Tag ^= 1
			for _, y := range list(of, first, last, tag) {
				if is := seal.Has(l, y); is != in[y] {
					t.Errorf("a list of %d has %v: %t", len(l), y, is)
				}
			}
		}
		if n := len(l); n > 0 && !seal.Has(l, l[n-1]) {
			t.Errorf("a list of %d has not its last element", n)
		}
		if seal.Has(l, vdt(7, 0xaa, 3)) {
			t.Errorf("a list of %d has what is not in it", len(l))
		}
		if len(l) == 0 && seal.Has(l, api.Seal{}) {
			t.Error("none has the zero seal")
		}
	}
}

// TestOf: P5.2, of any list: by every validator's number, those of none too.
func TestOf(t *testing.T) {
	for _, l := range shuffled() {
		before := slices.Clone(l)
		for _, v := range slices.Concat(noValidators(), []int{-2, 1 << 9}, upTo(32)) {
			var want []api.Seal
			for _, x := range l {
				if x.Validator == v {
					want = append(want, x)
				}
			}
			is := seal.Of(l, v)
			if !slices.Equal(is, want) {
				t.Errorf("Of(%d seals, %d): %d seals; want %d, or in another order", len(l), v, len(is), len(want))
			}
			clear(is[:cap(is)])
			if !slices.Equal(l, before) {
				t.Fatalf("Of(%d seals, %d) is a part of its list", len(l), v)
			}
		}
	}
}

func upTo(n int) (l []int) {
	for i := range n {
		l = append(l, i)
	}
	return l
}

// TestExamples: the chapter's table.
func TestExamples(t *testing.T) {
	for _, x := range []struct {
		a, b api.Seal
		want int
	}{{vdt(1, 9, 9), vdt(2, 0, 0), -1}, {vdt(1, 2, 0), vdt(1, 1, 5), 1}, {vdt(1, 1, 1), vdt(1, 1, 1), 0}} {
		if is := seal.Compare(x.a, x.b); is != x.want {
			t.Errorf("Compare(%v, %v): %d; want %d", x.a, x.b, is, x.want)
		}
	}
	a, b, two := vdt(0, 1, 5), vdt(0, 1, 6), vdt(2, 0, 0)
	checks(t, list(a, b, vdt(3, 0, 0)), api.OK, 0)
	checks(t, list(vdt(1, 0, 0), vdt(1, 0, 0)), api.ErrOrder, 1)
	checks(t, list(vdt(0, 0, 0), vdt(32, 0, 0), vdt(0, 0, 0)), api.ErrRange, 1)
	adds(t, list(a), vdt(0, 0, 9), list(vdt(0, 0, 9), a), api.OK)
	adds(t, nil, vdt(-1, 0, 0), nil, api.ErrRange)
	joins(t, list(a), list(b, a), nil, api.ErrOrder)
	whole := list(a, b, two)
	joins(t, list(a, two), list(b, two), whole, api.OK)
	if l := seal.Of(whole, 0); !slices.Equal(l, list(a, b)) {
		t.Errorf("Of(%v, 0): %v", whole, l)
	}
	if l, err := seal.Bytes(nil); !bytes.Equal(l, []byte{0}) || err != api.OK {
		t.Errorf("Bytes(none): % x, %v", l, err)
	}
	if l, err := seal.Bytes(list(a)); len(l) != 35 || err != api.OK {
		t.Errorf("Bytes(%v): % x, %v", a, l, err)
	}
	refuses(t, []byte{1, 32}, api.ErrRange, 1)
	three := append([]byte{3}, make([]byte, 33)...)
	refuses(t, slices.Concat([]byte{2}, three, three), api.ErrOrder, 35)
}
