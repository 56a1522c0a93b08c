package codec_test

import (
	"bytes"
	"encoding/binary"
	"math"
	"math/rand/v2"
	"testing"

	"distraint/api"
	"distraint/codec"
)

const m = 1<<64 - 1

// numbers are 0, and those around all powers of 2: the ends of all lengths are among them.
func numbers() []uint64 {
	l := []uint64{0}
	for bit := range 64 {
		l = append(l, 1<<bit-1, 1<<bit, 1<<bit+1)
	}
	return append(l, m-1, m)
}

// mixed tells n numbers of all lengths, the same ones in every run.
func mixed(n int) []uint64 {
	l, source := make([]uint64, n), rand.NewPCG(1, 2)
	for i := range l {
		l[i] = source.Uint64() >> (i * 11 % 64)
	}
	return l
}

// sure is for calls that cannot fail where they are.
func sure[T any](t *testing.T) func(v T, err api.Errno) T {
	return func(v T, err api.Errno) T {
		t.Helper()
		if err != api.OK {
			t.Fatal(err)
		}
		return v
	}
}

func fault(err api.Errno, at int) api.Fault { return api.Fault{Err: err, At: at} }

// got is what Get returns.
type got struct {
	n     uint64
	to    int
	fault api.Fault
}

func get(b []byte, at int) got {
	n, to, f := codec.Get(b, at)
	return got{n, to, f}
}

// asked tells what Get is asked for, by the library's own decoder, which takes any encoding of a number, short ones or not.
func asked(b []byte, at int) got {
	if at < 0 || at > len(b) {
		return got{fault: fault(api.ErrRange, 0)}
	}
	n, size := binary.Uvarint(b[at:])
	if size == 0 && len(b)-at < 10 {
		return got{fault: fault(api.ErrShort, at)}
	}
	if size <= 0 || !bytes.Equal(binary.AppendUvarint(nil, n), b[at:at+size]) {
		return got{fault: fault(api.ErrForm, at)}
	}
	return got{n: n, to: at + size}
}

func sameGet(t *testing.T, b []byte, at int) {
	t.Helper()
	if is, want := get(b, at), asked(b, at); is != want {
		t.Errorf("Get(% x, %d): %v; want %v", b, at, is, want)
	}
}

// TestNumberExamples: the chapter's table, its first two rows, and the edges around them.
func TestNumberExamples(t *testing.T) {
	for _, x := range []struct {
		n uint64
		b []byte
	}{
		{0, []byte{0x00}},
		{1, []byte{0x01}},
		{127, []byte{0x7f}},
		{128, []byte{0x80, 0x01}},
		{300, []byte{0xac, 0x02}},
		{16383, []byte{0xff, 0x7f}},
		{16384, []byte{0x80, 0x80, 0x01}},
		{1<<63 - 1, []byte{0xff, 0xff, 0xff, 0xff, 0xff, 0xff, 0xff, 0xff, 0x7f}},
		{1 << 63, []byte{0x80, 0x80, 0x80, 0x80, 0x80, 0x80, 0x80, 0x80, 0x80, 0x01}},
		{m, []byte{0xff, 0xff, 0xff, 0xff, 0xff, 0xff, 0xff, 0xff, 0xff, 0x01}},
	} {
		if b := codec.Put(x.n); !bytes.Equal(b, x.b) {
			t.Errorf("Put(%d): % x; want % x", x.n, b, x.b)
		}
		if size := codec.Size(x.n); size != len(x.b) {
			t.Errorf("Size(%d): %d; want %d", x.n, size, len(x.b))
		}
		if is, want := get(x.b, 0), (got{n: x.n, to: len(x.b)}); is != want {
			t.Errorf("Get(% x, 0): %v; want %v", x.b, is, want)
		}
	}
	for _, x := range []struct {
		b    []byte
		at   int
		want got
	}{
		{[]byte{0xac, 0x02}, 0, got{n: 300, to: 2}},
		{[]byte{0x80, 0x00}, 0, got{fault: fault(api.ErrForm, 0)}},
		{[]byte{0x80}, 0, got{fault: fault(api.ErrShort, 0)}},
		{nil, 0, got{fault: fault(api.ErrShort, 0)}},
		{[]byte{0x00}, 2, got{fault: fault(api.ErrRange, 0)}},
		{[]byte{0xff, 0xff, 0xff, 0xff, 0xff, 0xff, 0xff, 0xff, 0xff, 0x02}, 0, got{fault: fault(api.ErrForm, 0)}},
	} {
		if is := get(x.b, x.at); is != x.want {
			t.Errorf("Get(% x, %d): %v; want %v", x.b, x.at, is, x.want)
		}
	}
}

// TestPut: P2.1, of Size and Put: the library's encoding, in memory that is new.
func TestPut(t *testing.T) {
	for _, n := range append(numbers(), mixed(2000)...) {
		b, want := codec.Put(n), binary.AppendUvarint(nil, n)
		if !bytes.Equal(b, want) || codec.Size(n) != len(want) {
			t.Errorf("%d: Put % x, Size %d; want % x", n, b, codec.Size(n), want)
		}
		b[0] ^= 0xff
		if !bytes.Equal(codec.Put(n), want) {
			t.Errorf("Put(%d) tells what was done to an earlier result", n)
		}
	}
}

// TestGet: P2.1: every number, behind and ahead of other bytes, and each of its encodings cut short.
func TestGet(t *testing.T) {
	for _, n := range append(numbers(), mixed(500)...) {
		b := append([]byte{0x80, 0x05}, codec.Put(n)...)
		to := len(b)
		b = append(b, 0xff, 0x00)
		if is, want := get(b, 2), (got{n: n, to: to}); is != want {
			t.Errorf("Get(% x, 2): %v; want %v", b, is, want)
		}
		if is, want := get(b[:to], 2), (got{n: n, to: to}); is != want {
			t.Errorf("Get(% x, 2): %v; want %v", b[:to], is, want)
		}
		for end := 2; end < to; end++ { // the bytes behind end are spare capacity
			if is, want := get(b[:end], 2), (got{fault: fault(api.ErrShort, 2)}); is != want {
				t.Errorf("Get(% x, 2): %v; want %v", b[:end], is, want)
			}
		}
	}
}

// TestGetOffsets: P2.1: an offset at the end is one, but nothing is there.
func TestGetOffsets(t *testing.T) {
	for _, b := range [][]byte{nil, {}, {7}, {0x80, 0x01, 3}, {0xff, 0xff}} {
		for _, at := range []int{math.MinInt, -1, len(b) + 1, len(b) + 9, math.MaxInt - 9, math.MaxInt} {
			if is, want := get(b, at), (got{fault: fault(api.ErrRange, 0)}); is != want {
				t.Errorf("Get(% x, %d): %v; want %v", b, at, is, want)
			}
		}
		if is, want := get(b, len(b)), (got{fault: fault(api.ErrShort, len(b))}); is != want {
			t.Errorf("Get(% x, %d): %v; want %v", b, len(b), is, want)
		}
		for at := range b {
			sameGet(t, b, at)
		}
	}
}

// TestGetForms: P2.1: what is no encoding, at each length, and all byte strings of up to two bytes.
func TestGetForms(t *testing.T) {
	lasts := []byte{0x00, 0x01, 0x02, 0x03, 0x40, 0x7f, 0x80, 0x81, 0xff}
	for _, head := range []byte{0x80, 0x81, 0xff} {
		for size := range 14 {
			for _, last := range lasts {
				b := append(bytes.Repeat([]byte{head}, size), last)
				sameGet(t, b, 0)
				sameGet(t, append([]byte{0x80}, b...), 1)
				sameGet(t, append(b, 0x00), 0)
				sameGet(t, append(b, 0x01), 0)
			}
		}
	}
	for first := range 256 {
		sameGet(t, []byte{byte(first)}, 0)
		for second := range 256 {
			sameGet(t, []byte{byte(first), byte(second)}, 0)
		}
	}
	form := got{fault: fault(api.ErrForm, 0)}
	for _, b := range [][]byte{
		bytes.Repeat([]byte{0x80}, 10), // ten bytes are enough to tell, whether or not more follow
		bytes.Repeat([]byte{0xff}, 11),
		append(bytes.Repeat([]byte{0x80}, 9), 0x00),
		append(bytes.Repeat([]byte{0x80}, 10), 0x01),
		{0xff, 0x80, 0x00},
	} {
		if is := get(b, 0); is != form {
			t.Errorf("Get(% x, 0): %v; want %v", b, is, form)
		}
	}
	if is, want := get(bytes.Repeat([]byte{0x80}, 9), 0), (got{fault: fault(api.ErrShort, 0)}); is != want {
		t.Errorf("Get of nine bytes: %v; want %v", is, want)
	}
}

// TestGetLeavesItsBytes: what is passed is not changed.
func TestGetLeavesItsBytes(t *testing.T) {
	b := []byte{0x80, 0x80, 0x01, 0x80}
	get(b, 0)
	get(b, 3)
	if !bytes.Equal(b, []byte{0x80, 0x80, 0x01, 0x80}) {
		t.Errorf("Get changed its bytes: % x", b)
	}
}
