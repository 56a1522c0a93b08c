package queue_test

import (
	"encoding/binary"
	"slices"
	"testing"

	"distraint/api"
)

// number is the encoding of n by the library.
func number(n uint64) []byte { return binary.AppendUvarint(nil, n) }

// perEntry is how many items an entry's encoding has.
const perEntry = 8

// items are the encodings of the number of entries and of each number of each, by the library.
func items(l []api.Entry) (is [][]byte) {
	is = append(is, number(uint64(len(l))))
	for _, x := range l {
		for _, n := range []uint64{uint64(x.Owner), uint64(x.Stamp.Validator), uint64(x.Stamp.Since), uint64(x.Stamp.Prior + 1), uint64(x.Stamp.From), uint64(x.Created), x.Initial, x.Balance} {
			is = append(is, number(n))
		}
	}
	return is
}

func encoded(l []api.Entry) []byte { return slices.Concat(items(l)...) }

// TestBytes: P14.6: the numbers one after the other.
func TestBytes(t *testing.T) {
	encoding().is(t, nil, told{bytes: []byte{0}})
	encoding().is(t, begun(), told{bytes: []byte{3, 0, 2, 5, 0, 0, 9, 10, 10, 1, 2, 5, 0, 0, 9, 20, 20, 0, 3, 6, 3, 5, 12, 30, 30}})
	encoding().is(t, list(cutTo(entry(63, hopped(31, 127, 30, 127), 300, 255), 128)), told{bytes: []byte{1, 63, 31, 127, 31, 127, 0xac, 2, 0xff, 1, 0x80, 1}})
	for _, l := range some() {
		encoding().is(t, l, told{bytes: encoded(l)})
	}
	encoding().is(t, long(300), told{bytes: encoded(long(300))})
}

// wide has 32,768 entries of 32 bytes each, but for so many that have one less; their number has 3 bytes.
func wide(less int) []api.Entry {
	x := cutTo(entry(63, hopped(31, 1<<28, 30, 1<<28), 1<<28, 1<<63-1), 1<<28)
	l := repeated(32768, x)
	for i := range less {
		l[i].Balance = 1<<28 - 1
	}
	return l
}

// TestBytesLong: P14.6: encodings of just 2^20 bytes, of one more, and of more than that.
func TestBytesLong(t *testing.T) {
	for _, x := range []struct{ less, size int }{{100, 1<<20 - 97}, {4, 1<<20 - 1}, {3, 1 << 20}, {2, 1<<20 + 1}, {1, 1<<20 + 2}, {0, 1<<20 + 3}} {
		l := wide(x.less)
		check(t, l, api.OK, 0)
		if n := len(encoded(l)); n != x.size {
			t.Fatalf("the encoding has %d bytes; want %d", n, x.size)
		}
		if x.size > 1<<20 {
			encoding().is(t, l, refused(api.ErrLong))
		} else {
			encoding().is(t, l, told{bytes: encoded(l)})
		}
	}
	for _, i := range []int{0, 2, 3, 16384, 32767} {
		encoding().is(t, with(wide(3), i, func(x *api.Entry) { x.Initial = m }), refused(api.ErrLong))
	}
	wider := repeated(32768, cutTo(entry(63, hopped(31, top, 30, top), top, m), most>>15))
	encoding().is(t, wider, refused(api.ErrLong))
	encoding().is(t, wider[:10000], told{bytes: encoded(wider[:10000])})
	encoding().is(t, long(32768), told{bytes: encoded(long(32768))})
}

// TestBytesApart: P14.6: each answer is memory of its own.
func TestBytesApart(t *testing.T) {
	a, b := encoding().ask(begun()).bytes, encoding().ask(begun()).bytes
	a = a[:cap(a)]
	for i := range a {
		a[i] = 99
	}
	if !slices.Equal(b, encoded(begun())) {
		t.Errorf("% x", b)
	}
}
