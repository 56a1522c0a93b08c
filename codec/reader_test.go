package codec_test

import (
	"bytes"
	"math"
	"slices"
	"testing"

	"distraint/api"
	"distraint/codec"
)

// stands checks what a reader tells of itself.
func stands(t *testing.T, name string, r *codec.Reader, at, left int, end api.Fault) {
	t.Helper()
	if r.At() != at || r.Left() != left || r.End() != end {
		t.Errorf("%s: At %d, Left %d, End %v; want %d, %d, %v", name, r.At(), r.Left(), r.End(), at, left, end)
	}
}

// readsZeros checks that a reader reads nothing, whatever it is asked for.
func readsZeros(t *testing.T, name string, r *codec.Reader) {
	t.Helper()
	if n := r.U(); n != 0 {
		t.Errorf("%s: U %d", name, n)
	}
	if n := r.N(1, math.MaxInt); n != 0 {
		t.Errorf("%s: N %d", name, n)
	}
	if h := r.Hash(); h != (api.Hash{}) {
		t.Errorf("%s: Hash % x", name, h)
	}
	if b := r.Blob(math.MaxInt); len(b) != 0 {
		t.Errorf("%s: Blob % x", name, b)
	}
}

// TestReaderExample: the chapter's table, its last row.
func TestReaderExample(t *testing.T) {
	r := codec.NewReader([]byte{0x05, 0x02, 0x61, 0x62, 0x01})
	if n := r.N(0, 9); n != 5 {
		t.Errorf("N(0, 9): %d", n)
	}
	if b := r.Blob(9); string(b) != "ab" {
		t.Errorf("Blob(9): % x", b)
	}
	stands(t, "after the blob", r, 4, 1, fault(api.ErrLong, 4))
	if n := r.N(2, 9); n != 0 {
		t.Errorf("N(2, 9): %d", n)
	}
	stands(t, "after the fault", r, 4, 0, fault(api.ErrRange, 4))
	if n := r.U(); n != 0 {
		t.Errorf("U: %d", n)
	}
	stands(t, "at the end", r, 4, 0, fault(api.ErrRange, 4))
}

// reading is a call that reads bytes which begin at the offset 3, what it reads, and where it leaves the reader.
type reading[T any] struct {
	name  string
	bytes []byte
	do    func(r *codec.Reader) T
	want  T
	size  int
	err   api.Errno
}

// check reads the item, ahead of other bytes and, as far as that is the same, at the end; without a fault the reader goes on behind it, with one it stays.
func (x reading[T]) check(t *testing.T, same func(a, b T) bool) {
	t.Helper()
	for _, behind := range [][]byte{nil, bytes.Repeat([]byte{1}, 40)} {
		if x.err == api.ErrShort && behind != nil {
			continue
		}
		r := codec.NewReader(slices.Concat([]byte{0x80, 0x80, 0x01}, x.bytes, behind))
		if n := r.U(); n != 16384 {
			t.Fatalf("%s: U %d", x.name, n)
		}
		if is := x.do(r); !same(is, x.want) {
			t.Errorf("%s of % x: %v; want %v", x.name, x.bytes, is, x.want)
		}
		if x.err != api.OK {
			for range 2 {
				readsZeros(t, x.name, r)
				stands(t, x.name, r, 3, 0, fault(x.err, 3))
			}
			continue
		}
		at, left := 3+x.size, len(x.bytes)-x.size+len(behind)
		end := api.Fault{}
		if left > 0 {
			end = fault(api.ErrLong, at)
		}
		stands(t, x.name, r, at, left, end)
	}
}

func equal[T comparable](a, b T) bool { return a == b }

// TestReadNumbers: P2.3, of U: every number, and each fault of Get.
func TestReadNumbers(t *testing.T) {
	for _, n := range append(numbers(), mixed(200)...) {
		reading[uint64]{"U", codec.Put(n), (*codec.Reader).U, n, codec.Size(n), api.OK}.check(t, equal)
	}
	for _, x := range []reading[uint64]{
		{name: "U of nothing", err: api.ErrShort},
		{name: "U cut short", bytes: []byte{0x80}, err: api.ErrShort},
		{name: "U of nine bytes", bytes: bytes.Repeat([]byte{0xff}, 9), err: api.ErrShort},
		{name: "U of ten bytes", bytes: bytes.Repeat([]byte{0xff}, 10), err: api.ErrForm},
		{name: "U of a 0 too many", bytes: []byte{0x80, 0x00}, err: api.ErrForm},
		{name: "U beyond 2^64 - 1", bytes: append(bytes.Repeat([]byte{0xff}, 9), 2), err: api.ErrForm},
	} {
		x.do = (*codec.Reader).U
		x.check(t, equal)
	}
}

// TestReadBounded: P2.3, of N: at both bounds and beyond them, bounds below 0, bounds that nothing is between, and numbers that no int is.
func TestReadBounded(t *testing.T) {
	for _, x := range []struct {
		n           uint64
		least, most int
		err         api.Errno
	}{
		{5, 0, 9, api.OK},
		{0, 0, 0, api.OK},
		{0, 1, 9, api.ErrRange},
		{1, 1, 9, api.OK},
		{9, 1, 9, api.OK},
		{10, 1, 9, api.ErrRange},
		{127, 128, 300, api.ErrRange},
		{128, 128, 300, api.OK},
		{300, 128, 300, api.OK},
		{301, 128, 300, api.ErrRange},
		{0, -5, 5, api.OK},
		{6, -5, 5, api.ErrRange},
		{0, -5, -1, api.ErrRange},
		{5, 9, 1, api.ErrRange},
		{5, math.MaxInt, math.MinInt, api.ErrRange},
		{0, math.MinInt, math.MaxInt, api.OK},
		{math.MaxInt, math.MinInt, math.MaxInt, api.OK},
		{math.MaxInt, math.MinInt, math.MaxInt - 1, api.ErrRange},
		{math.MaxInt, math.MaxInt, math.MaxInt, api.OK},
		{math.MaxInt + 1, math.MinInt, math.MaxInt, api.ErrRange},
		{m, math.MinInt, math.MaxInt, api.ErrRange},
		{m, -1, -1, api.ErrRange},
		{m - 4, -9, -1, api.ErrRange},
	} {
		want := 0
		if x.err == api.OK {
			want = int(x.n)
		}
		reading[int]{"N", codec.Put(x.n), func(r *codec.Reader) int { return r.N(x.least, x.most) }, want, codec.Size(x.n), x.err}.check(t, equal)
	}
	for _, x := range []reading[int]{ // what is no number is not out of bounds
		{name: "N of nothing", err: api.ErrShort},
		{name: "N cut short", bytes: []byte{0x80}, err: api.ErrShort},
		{name: "N of a 0 too many", bytes: []byte{0x80, 0x00}, err: api.ErrForm},
	} {
		for _, bounds := range [][2]int{{0, 9}, {9, 0}, {math.MinInt, math.MaxInt}} {
			x.do = func(r *codec.Reader) int { return r.N(bounds[0], bounds[1]) }
			x.check(t, equal)
		}
	}
}

// TestReadHashes: P2.3, of Hash: 32 bytes, and each number of bytes below.
func TestReadHashes(t *testing.T) {
	h := api.Hash{0: 0x80, 1: 1, 30: 5, 31: 0xff}
	reading[api.Hash]{"Hash", h[:], (*codec.Reader).Hash, h, 32, api.OK}.check(t, equal)
	reading[api.Hash]{"Hash of 0", make([]byte, 33), (*codec.Reader).Hash, api.Hash{}, 32, api.OK}.check(t, equal)
	for size := range 32 {
		reading[api.Hash]{"Hash cut short", h[:size], (*codec.Reader).Hash, api.Hash{}, 0, api.ErrShort}.check(t, equal)
	}
}

// TestReadBlobs: P2.3, of Blob: its faults are at its length's offset, and come in their order.
func TestReadBlobs(t *testing.T) {
	long := bytes.Repeat([]byte{0xcd}, 300)
	for _, x := range []struct {
		name  string
		bytes []byte
		most  int
		want  []byte
		size  int
		err   api.Errno
	}{
		{"ab", []byte{2, 'a', 'b'}, 9, []byte("ab"), 3, api.OK},
		{"ab, at most 2", []byte{2, 'a', 'b'}, 2, []byte("ab"), 3, api.OK},
		{"ab, at most 1", []byte{2, 'a', 'b'}, 1, nil, 0, api.ErrLong},
		{"ab, at most 0", []byte{2, 'a', 'b'}, 0, nil, 0, api.ErrLong},
		{"ab, at most -1", []byte{2, 'a', 'b'}, -1, nil, 0, api.ErrLong},
		{"none", []byte{0}, 9, nil, 1, api.OK},
		{"none, at most 0", []byte{0}, 0, nil, 1, api.OK},
		{"none, at most -1", []byte{0}, -1, nil, 0, api.ErrLong},
		{"none, at most the least", []byte{0}, math.MinInt, nil, 0, api.ErrLong},
		{"300", append([]byte{0xac, 0x02}, long...), 300, long, 302, api.OK},
		{"300, at most 299", append([]byte{0xac, 0x02}, long...), 299, nil, 0, api.ErrLong},
		{"299 of 300", append([]byte{0xac, 0x02}, long[1:]...), 300, nil, 0, api.ErrShort},
		{"299 of 300, at most 299", append([]byte{0xac, 0x02}, long[1:]...), 299, nil, 0, api.ErrLong},
		{"1 of 2", []byte{2, 'a'}, 2, nil, 0, api.ErrShort},
		{"0 of 1", []byte{1}, 2, nil, 0, api.ErrShort},
		{"0 of 1, at most 0", []byte{1}, 0, nil, 0, api.ErrLong},
		{"no length", nil, 9, nil, 0, api.ErrShort},
		{"no length, at most -1", nil, -1, nil, 0, api.ErrShort},
		{"half a length", []byte{0x80}, 9, nil, 0, api.ErrShort},
		{"a wrong length", []byte{0x82, 0x00, 'a', 'b'}, 9, nil, 0, api.ErrForm},
		{"a wrong length, at most 0", []byte{0x82, 0x00, 'a', 'b'}, 0, nil, 0, api.ErrForm},
		{"2^63 - 1", append(codec.Put(math.MaxInt), long...), math.MaxInt, nil, 0, api.ErrShort},
		{"2^63 - 1, at most less", append(codec.Put(math.MaxInt), long...), math.MaxInt - 1, nil, 0, api.ErrLong},
		{"2^63", append(codec.Put(1<<63), long...), math.MaxInt, nil, 0, api.ErrLong},
		{"2^64 - 1", append(codec.Put(m), long...), math.MaxInt, nil, 0, api.ErrLong},
	} {
		reading[[]byte]{"Blob, " + x.name, x.bytes, func(r *codec.Reader) []byte { return r.Blob(x.most) }, x.want, x.size, x.err}.check(t, bytes.Equal)
	}
}

// TestNewReaders: P2.3 and P2.4: a reader begins at 0, and has no fault where there is nothing to read.
func TestNewReaders(t *testing.T) {
	stands(t, "of none", codec.NewReader(nil), 0, 0, api.Fault{})
	stands(t, "of empty bytes", codec.NewReader([]byte{}), 0, 0, api.Fault{})
	r := codec.NewReader([]byte{7, 8})
	stands(t, "of two bytes", r, 0, 2, fault(api.ErrLong, 0))
	if a, b := r.U(), r.U(); a != 7 || b != 8 {
		t.Error("End changed what is read:", a, b)
	}
	stands(t, "at the end", r, 2, 0, api.Fault{})
	r.U()
	stands(t, "behind the end", r, 2, 0, fault(api.ErrShort, 2))
}

// TestFail: P2.4: a fault that is given counts like one that was found; the first one stays, and OK is none.
func TestFail(t *testing.T) {
	for _, given := range []api.Fault{fault(api.ErrState, 7), fault(api.ErrArg, 0), fault(api.ErrLong, -3), fault(-1, math.MaxInt), fault(99, math.MinInt)} {
		r := codec.NewReader([]byte{1, 2, 3})
		r.U()
		r.Fail(api.OK, 5)
		stands(t, "OK", r, 1, 2, fault(api.ErrLong, 1))
		r.Fail(given.Err, given.At)
		stands(t, "given", r, given.At, 0, given)
		r.Fail(api.ErrTag, 1)
		r.Fail(api.OK, 1)
		readsZeros(t, "given", r)
		stands(t, "given again", r, given.At, 0, given)
	}
	r := codec.NewReader([]byte{0x80})
	r.U()
	r.Fail(api.ErrState, 9)
	stands(t, "found first", r, 0, 0, fault(api.ErrShort, 0))
	r = codec.NewReader([]byte{4})
	r.U()
	r.Fail(api.ErrState, 0)
	stands(t, "given at the end", r, 0, 0, fault(api.ErrState, 0))
}

// TestInvalidReaders: P2.3 and P2.4: none, one that NewReader did not make, and a copy of one that it made.
func TestInvalidReaders(t *testing.T) {
	made := codec.NewReader([]byte{7, 8})
	made.U()
	twin := *made
	for name, r := range map[string]*codec.Reader{"none": nil, "zero": {}, "copy": &twin} {
		for range 2 {
			readsZeros(t, name, r)
			stands(t, name, r, 0, 0, fault(api.ErrNil, 0))
			r.Fail(api.ErrState, 5)
		}
	}
	stands(t, "made", made, 1, 1, fault(api.ErrLong, 1))
}

// TestReaderSharesNothing: a reader reads what its bytes were, none behind them, and what it tells is new memory.
func TestReaderSharesNothing(t *testing.T) {
	b := []byte{2, 'a', 'b', 1, 'c', 0x80, 0x01}
	r := codec.NewReader(b[:6])
	first := r.Blob(9)
	first[0] = 'x'
	_ = append(first, 'x', 'x')
	if !bytes.Equal(b, []byte{2, 'a', 'b', 1, 'c', 0x80, 0x01}) {
		t.Errorf("the reader's bytes were changed: % x", b)
	}
	clear(b)
	if second := r.Blob(9); string(second) != "c" || string(first) != "xb" {
		t.Errorf("Blob: % x, after % x", second, first)
	}
	if n := r.U(); n != 0 {
		t.Errorf("U reads behind the end: %d", n)
	}
	stands(t, "at the end", r, 5, 0, fault(api.ErrShort, 5))
	f := r.End()
	f.Err, f.At = api.OK, 0
	stands(t, "after its fault was told", r, 5, 0, fault(api.ErrShort, 5))
}
