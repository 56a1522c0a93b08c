package stamp_test

import (
	"bytes"
	"encoding/binary"
	"math"
	"slices"
	"testing"

	"distraint/api"
	"distraint/codec"
	"distraint/stamp"
)

func fault(err api.Errno, at int) api.Fault { return api.Fault{Err: err, At: at} }

// read: bytes are read as a stamp, or refused with a fault; they stay as they are.
func read(t *testing.T, b []byte, s api.Stamp, want api.Fault) {
	t.Helper()
	before := bytes.Clone(b[:cap(b)])
	if is, fault := stamp.Read(b); is != s || fault != want {
		t.Errorf("Read(% x): %v, %v; want %v, %v", b, is, fault, s, want)
	}
	if !bytes.Equal(b[:cap(b)], before) {
		t.Errorf("Read changed % x", before)
	}
}

// take: a stamp is taken from a reader, which is at an offset then, or has a fault there.
func take(t *testing.T, r *codec.Reader, s api.Stamp, at int) {
	t.Helper()
	if is := stamp.Take(r); is != s {
		t.Errorf("Take: %v; want %v", is, s)
	}
	if r.At() != at {
		t.Errorf("At: %d; want %d", r.At(), at)
	}
}

// ended: a reader has this fault, if any, or bytes left.
func ended(t *testing.T, r *codec.Reader, want api.Fault) {
	t.Helper()
	if is := r.End(); is != want {
		t.Errorf("End: %v; want %v", is, want)
	}
}

// refuses: bytes are refused with a fault, by Read and by Take, also behind other bytes; the fault stays.
func refuses(t *testing.T, b []byte, err api.Errno, at int) {
	t.Helper()
	read(t, b, api.Stamp{}, fault(err, at))
	for _, ahead := range []int{0, 1, 5} {
		r := codec.NewReader(append(bytes.Repeat([]byte{7}, ahead), b...))
		for range ahead {
			r.U()
		}
		take(t, r, api.Stamp{}, ahead+at)
		ended(t, r, fault(err, ahead+at))
		take(t, r, api.Stamp{}, ahead+at)
		ended(t, r, fault(err, ahead+at))
		if r.Left() != 0 || r.U() != 0 {
			t.Errorf("%d bytes are left behind a fault", r.Left())
		}
	}
}

// refusesAt: the item i is refused where it begins, whatever follows it: the rest, nothing, or more wrong bytes.
func refusesAt(t *testing.T, l [][]byte, i int, item []byte, err api.Errno) {
	t.Helper()
	at := len(slices.Concat(l[:i]...))
	head := slices.Concat(slices.Concat(l[:i]...), item)
	refuses(t, slices.Concat(head, slices.Concat(l[i+1:]...)), err, at)
	refuses(t, head, err, at)
	refuses(t, slices.Concat(head, []byte{0xff, 0x80, 0}), err, at)
}

// few are stamps whose numbers have all lengths that matter.
func few() []api.Stamp {
	return []api.Stamp{bare(0, 1), of(2, 9, 1, 5), of(31, 300, 0, 300), of(0, top, 31, 128), of(30, top, 31, top)}
}

// TestReadsBack: P12.4 and P12.6: a stamp is read from its encoding, by the library's encoding and by its own.
func TestReadsBack(t *testing.T) {
	for _, s := range valids() {
		read(t, encoded(s), s, api.Fault{})
		b, _ := stamp.Bytes(s)
		read(t, b, s, api.Fault{})
	}
}

// TestReadsBackDrawn: P12.6, of drawn stamps.
func TestReadsBackDrawn(t *testing.T) {
	r := source(6)
	for range 20000 {
		s := drawn(r)
		b, err := stamp.Bytes(s)
		if err != api.OK || !bytes.Equal(b, encoded(s)) {
			t.Fatalf("Bytes(%v): % x, %v", s, b, err)
		}
		read(t, b, s, api.Fault{})
	}
}

// TestTakesMany: P12.4: stamps are taken one after the other, ahead of what else is there, which is not looked at.
func TestTakesMany(t *testing.T) {
	var b []byte
	for _, s := range valids() {
		b = append(b, encoded(s)...)
	}
	r, at := codec.NewReader(append(b, 0xff)), 0
	for _, s := range valids() {
		at += len(encoded(s))
		take(t, r, s, at)
		ended(t, r, fault(api.ErrLong, at))
	}
	take(t, r, api.Stamp{}, at)
	ended(t, r, fault(api.ErrShort, at))
}

// TestTakesLast: P12.4: with nothing behind it.
func TestTakesLast(t *testing.T) {
	for _, s := range valids() {
		r := codec.NewReader(encoded(s))
		take(t, r, s, len(encoded(s)))
		ended(t, r, api.Fault{})
		take(t, r, api.Stamp{}, len(encoded(s)))
		ended(t, r, fault(api.ErrShort, len(encoded(s))))
	}
}

// TestTakesNothing: P12.4: of a reader that is not valid, or that has a fault, which stays.
func TestTakesNothing(t *testing.T) {
	twin := *codec.NewReader([]byte{2, 9, 2, 5})
	for _, r := range []*codec.Reader{nil, {}, &twin} {
		take(t, r, api.Stamp{}, 0)
		ended(t, r, fault(api.ErrNil, 0))
	}
	for _, err := range []api.Errno{api.ErrNil, api.ErrLong, api.ErrShort, api.ErrChain} {
		for _, at := range []int{-1, 0, 1, 4, 5} {
			r := codec.NewReader([]byte{2, 9, 2, 5, 1})
			r.Fail(err, at)
			take(t, r, api.Stamp{}, at)
			ended(t, r, fault(err, at))
		}
	}
	for _, s := range []api.Stamp{bare(0, 1), of(2, 9, 1, 5)} {
		r := codec.NewReader(append([]byte{32}, encoded(s)...))
		r.N(0, 31)
		take(t, r, api.Stamp{}, 0)
		ended(t, r, fault(api.ErrRange, 0))
		r = codec.NewReader(encoded(s))
		r.U()
		r.U()
		r.U()
		r.U()
		r.Fail(api.ErrLong, 4) // a fault like that of bytes that are left
		take(t, r, api.Stamp{}, 4)
		ended(t, r, fault(api.ErrLong, 4))
	}
}

// TestReadsCutOff: P12.4: bytes that end at any place, within an item or behind it.
func TestReadsCutOff(t *testing.T) {
	refuses(t, nil, api.ErrShort, 0)
	for _, s := range few() {
		at := 0
		for _, item := range items(s) {
			for size := range item {
				refuses(t, encoded(s)[:at+size], api.ErrShort, at)
			}
			at += len(item)
		}
	}
}

// TestReadsTooMuch: P12.4: bytes that are left.
func TestReadsTooMuch(t *testing.T) {
	for _, s := range valids() {
		b := encoded(s)
		for _, more := range [][]byte{{0}, {1}, {0x80}, {0xff, 0xff}, b} {
			read(t, slices.Concat(b, more), api.Stamp{}, fault(api.ErrLong, len(b)))
		}
	}
}

// TestReadsBeyond: P12.4: each number just and far out of its bounds.
func TestReadsBeyond(t *testing.T) {
	most := []uint64{31, 4294967296, 32, 4294967296}
	for _, s := range few() {
		l := items(s)
		for i := range l {
			for _, n := range []uint64{most[i] + 1, most[i] + 256, most[i] + 1<<32, 1<<63 - 1, 1 << 63, math.MaxUint64} {
				refusesAt(t, l, i, number(n), api.ErrRange)
			}
		}
		refusesAt(t, l, 1, number(0), api.ErrRange)
	}
}

// TestReadsLonger: P12.4: each number written longer than it needs, or not ended.
func TestReadsLonger(t *testing.T) {
	for _, s := range few() {
		l := items(s)
		for i, item := range l {
			longer := bytes.Clone(item)
			longer[len(longer)-1] |= 0x80
			refusesAt(t, l, i, append(longer, 0), api.ErrForm)
			refusesAt(t, l, i, append(bytes.Repeat([]byte{0xff}, 9), 2), api.ErrForm)
			refusesAt(t, l, i, bytes.Repeat([]byte{0x80}, 10), api.ErrForm)
			refuses(t, slices.Concat(slices.Concat(l[:i]...), bytes.Repeat([]byte{0x80}, 9)), api.ErrShort, len(slices.Concat(l[:i]...)))
		}
	}
}

// TestReadsNoStamp: P12.4, written out: four numbers, each within its bounds, that are no valid stamp; the fault is at the first of them, whatever follows.
func TestReadsNoStamp(t *testing.T) {
	for _, x := range []struct {
		b   []byte
		err api.Errno
	}{
		{[]byte{2, 9, 3, 5}, api.ErrArg}, {[]byte{0, 1, 1, 1}, api.ErrArg}, {[]byte{31, 9, 32, 5}, api.ErrArg}, {[]byte{2, 9, 3, 0}, api.ErrArg}, {[]byte{2, 9, 3, 10}, api.ErrArg},
		{[]byte{2, 9, 0, 5}, api.ErrState}, {[]byte{2, 9, 0, 1}, api.ErrState}, {[]byte{2, 9, 0, 10}, api.ErrState}, {[]byte{2, 9, 2, 0}, api.ErrState}, {[]byte{0, 1, 32, 0}, api.ErrState},
		{[]byte{2, 9, 2, 10}, api.ErrOrder}, {[]byte{0, 1, 2, 2}, api.ErrOrder}, {[]byte{2, 0xac, 2, 2, 0xad, 2}, api.ErrOrder}, {slices.Concat([]byte{2, 9, 1}, number(top)), api.ErrOrder},
	} {
		for _, more := range [][]byte{nil, {0}, {0xff}, {2, 9, 2, 5}} {
			refuses(t, slices.Concat(x.b, more), x.err, 0)
		}
	}
}

// TestReadsFirstFault: P12.4: of several faults the first one is told; numbers are not held against each other before all are read.
func TestReadsFirstFault(t *testing.T) {
	refuses(t, []byte{32, 0, 33}, api.ErrRange, 0)
	refuses(t, []byte{2, 0, 33}, api.ErrRange, 1)
	refuses(t, []byte{2, 9, 33, 0x80, 0}, api.ErrRange, 2)
	refuses(t, []byte{2, 9, 3}, api.ErrShort, 3)
	refuses(t, []byte{2, 9, 3, 0x80}, api.ErrShort, 3)
	refuses(t, []byte{2, 9, 3, 0x80, 0}, api.ErrForm, 3)
	refuses(t, slices.Concat([]byte{2, 9, 3}, number(top+1)), api.ErrRange, 3)
	refuses(t, slices.Concat([]byte{2, 9, 0}, number(top+1)), api.ErrRange, 3)
}

// item tells the number at an offset and where it ends, by the library, or why there is none.
func item(b []byte, at int, least, most uint64) (int, int, api.Errno) {
	n, size := binary.Uvarint(b[at:])
	switch {
	case size == 0 && len(b)-at < 10:
		return 0, 0, api.ErrShort
	case size <= 0 || size > 1 && b[at+size-1] == 0:
		return 0, 0, api.ErrForm
	case n < least || n > most:
		return 0, 0, api.ErrRange
	}
	return int(n), at + size, api.OK
}

// wanted tells what the chapter's words say of bytes.
func wanted(b []byte) (api.Stamp, api.Fault) {
	var n [4]int
	at := 0
	for i, most := range []uint64{31, 4294967296, 32, 4294967296} {
		least := uint64(0)
		if i == 1 {
			least = 1
		}
		is, to, err := item(b, at, least, most)
		if err != api.OK {
			return api.Stamp{}, fault(err, at)
		}
		n[i], at = is, to
	}
	n[2]--
	if err := wrong(made(n)); err != api.OK {
		return api.Stamp{}, fault(err, 0)
	}
	if at < len(b) {
		return api.Stamp{}, fault(api.ErrLong, at)
	}
	return made(n), api.Fault{}
}

// asEncoded: bytes are read by the chapter's words; what is read has them as its encoding. It tells whether they are.
func asEncoded(t *testing.T, b []byte) bool {
	t.Helper()
	s, want := wanted(b)
	read(t, b, s, want)
	if want != (api.Fault{}) {
		return false
	}
	if again, err := stamp.Bytes(s); !bytes.Equal(again, b) || err != api.OK {
		t.Errorf("% x is read as %v, whose bytes are % x, %v", b, s, again, err)
	}
	return true
}

// TestReadsSmall: P12.4 and P12.6: all byte strings of up to five of some bytes.
func TestReadsSmall(t *testing.T) {
	some := []byte{0, 1, 2, 3, 31, 32, 33, 0x80, 0xff}
	rows, right := [][]byte{nil}, 0
	for range 5 {
		var longer [][]byte
		for _, b := range rows {
			for _, c := range some {
				longer = append(longer, append(bytes.Clone(b), c))
			}
		}
		rows = longer
		for _, b := range rows {
			if asEncoded(t, b) {
				right++
			}
		}
	}
	if right < 500 {
		t.Errorf("only %d are stamps", right)
	}
}

// TestReadsDrawn: P12.6: drawn bytes, and encodings of drawn stamps of which some bytes are others, missing, or more.
func TestReadsDrawn(t *testing.T) {
	r := source(7)
	right, others := 0, 0
	for range 60000 {
		b := encoded(drawn(r))
		switch at := r.IntN(len(b)); r.IntN(6) {
		case 0:
			b[at] ^= 1 << r.IntN(8)
		case 1:
			b[at] = byte(r.Uint32())
		case 2:
			b = b[:at]
		case 3:
			b = slices.Insert(b, at, byte(r.Uint32()))
		case 4:
			b = slices.Delete(b, at, at+1)
		case 5:
			for i := range b {
				b[i] = byte(r.Uint32()) >> r.IntN(8)
			}
		}
		if asEncoded(t, b) {
			right++
		} else {
			others++
		}
	}
	if right < 5000 || others < 5000 {
		t.Errorf("%d are stamps, %d are not", right, others)
	}
}

func FuzzRead(f *testing.F) {
	f.Add([]byte{})
	for _, s := range few() {
		f.Add(encoded(s))
	}
	f.Fuzz(func(t *testing.T, b []byte) { asEncoded(t, b) })
}
