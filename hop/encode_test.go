package hop_test

import (
	"encoding/binary"
	"slices"
	"testing"

	"distraint/api"
)

// number is the encoding of n by the library.
func number(n uint64) []byte { return binary.AppendUvarint(nil, n) }

// perHop is how many items a hop's encoding has.
const perHop = 4

// items are the encodings of the number of hops and of each number of each, by the library.
func items(l []api.Hop) (is [][]byte) {
	is = append(is, number(uint64(len(l))))
	for _, x := range l {
		for _, n := range []int{x.Owner, x.Src, x.Dst, x.Created} {
			is = append(is, number(uint64(n)))
		}
	}
	return is
}

func encoded(l []api.Hop) []byte { return slices.Concat(items(l)...) }

// TestBytes: P15.4: the numbers one after the other.
func TestBytes(t *testing.T) {
	encoding().is(t, nil, told{bytes: []byte{0}})
	encoding().is(t, []api.Hop{}, told{bytes: []byte{0}})
	encoding().is(t, begun(), told{bytes: []byte{7, 0, 1, 2, 5, 0, 1, 2, 5, 1, 1, 2, 6, 0, 2, 1, 9, 0, 1, 3, 9, 0, 3, 2, 12, 0, 1, 2, 40}})
	encoding().is(t, list(one(63, 31, 30, 127), one(1, 2, 3, 128), one(0, 0, 1, top)), told{bytes: []byte{3, 63, 31, 30, 127, 1, 2, 3, 0x80, 1, 0, 0, 1, 0x80, 0x80, 0x80, 0x80, 0x10}})
	for _, l := range valids() {
		encoding().is(t, l, told{bytes: encoded(l)})
	}
}

// TestBytesLong: P15.4: the longest encoding of all, and a list of one hop more.
func TestBytesLong(t *testing.T) {
	l := repeated(4096, one(63, 31, 30, top))
	if n := len(encoding().ask(l).bytes); n != 2+4096*8 {
		t.Errorf("%d bytes", n)
	}
	encoding().is(t, l, told{bytes: encoded(l)})
	encoding().is(t, append(l, l[0]), refused(api.ErrLong))
}

// TestBytesApart: P15.4: each answer is memory of its own.
func TestBytesApart(t *testing.T) {
	a, b := encoding().ask(begun()).bytes, encoding().ask(begun()).bytes
	a = a[:cap(a)]
	for i := range a {
		a[i] = 99
	}
	if !slices.Equal(b, encoded(begun())) {
		t.Errorf("% x", b)
	}
}
