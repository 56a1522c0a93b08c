package roster_test

import (
	"encoding/binary"
	"slices"
	"testing"

	"distraint/api"
)

// number is the encoding of n by the library.
func number(n uint64) []byte { return binary.AppendUvarint(nil, n) }

// perValidator is how many items a validator's encoding has.
const perValidator = 5

// items are the encodings of the number of validators and of each number of each, by the library.
func items(l []api.Validator) (is [][]byte) {
	is = append(is, number(uint64(len(l))))
	for _, x := range l {
		flags := map[[2]bool]uint64{{true, false}: 1, {false, true}: 2, {true, true}: 3}[[2]bool{x.Attest, x.Propose}]
		for _, n := range []uint64{uint64(x.Operator), x.MinSelf, uint64(x.Status), uint64(x.Until), flags} {
			is = append(is, number(n))
		}
	}
	return is
}

func encoded(l []api.Validator) []byte { return slices.Concat(items(l)...) }

// TestBytes: P16.6: the numbers one after the other.
func TestBytes(t *testing.T) {
	encoding().is(t, nil, told{bytes: []byte{0}})
	encoding().is(t, []api.Validator{}, told{bytes: []byte{0}})
	encoding().is(t, begun(), told{bytes: []byte{2, 5, 1, 1, 0, 0, 3, 9, 1, 0, 0}})
	encoding().is(t, states(), told{bytes: []byte{10,
		7, 1, 1, 0, 0, 6, 2, 2, 0, 0, 9, 3, 1, 30, 0, 8, 4, 2, 40, 0, 11, 5, 3, 50, 0,
		10, 6, 1, 60, 2, 13, 7, 2, 70, 2, 12, 8, 3, 80, 2, 15, 9, 4, 90, 1, 14, 10, 4, 100, 3}})
	encoding().is(t, list(one(63, great, tomb, top, both), one(0, 300, jailed, 128, props)), told{bytes: []byte{2,
		63, 0xff, 0xff, 0xff, 0xff, 0xff, 0xff, 0xff, 0xff, 0xff, 1, 4, 0x80, 0x80, 0xc0, 0x80, 0x10, 3, 0, 0xac, 2, 3, 0x80, 1, 2}})
	for _, l := range valids() {
		encoding().is(t, l, told{bytes: encoded(l)})
	}
}

// longest has 32 validators, each of which takes as many bytes as one can.
func longest() (l []api.Validator) {
	for i := range 32 {
		l = append(l, one(2*i+1, great-uint64(i), tomb, top-i, both))
	}
	return l
}

// TestBytesLong: P16.6: the longest encoding of all, and a roster of one validator more.
func TestBytesLong(t *testing.T) {
	if n := len(encoding().ask(longest()).bytes); n != 1+32*18 {
		t.Errorf("%d bytes", n)
	}
	encoding().is(t, longest(), told{bytes: encoded(longest())})
	encoding().is(t, append(longest(), one(0, 1, idle, 0, clean)), refused(api.ErrLong))
}

// TestBytesApart: P16.6: each answer is memory of its own.
func TestBytesApart(t *testing.T) {
	a, b := encoding().ask(begun()).bytes, encoding().ask(begun()).bytes
	a = a[:cap(a)]
	for i := range a {
		a[i] = 99
	}
	if !slices.Equal(b, encoded(begun())) {
		t.Errorf("% x", b)
	}
}
