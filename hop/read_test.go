package hop_test

import (
	"bytes"
	"encoding/binary"
	"math"
	"math/rand/v2"
	"slices"
	"testing"

	"distraint/api"
	"distraint/hop"
)

func fault(err api.Errno, at int) api.Fault { return api.Fault{Err: err, At: at} }

// read: bytes are read as a list of hops, or refused with a fault; they stay as they are, and what is read is in memory of its own.
func read(t *testing.T, b []byte, want []api.Hop, at api.Fault) {
	t.Helper()
	mine := append(bytes.Clone(b), 1, 2, 3)
	before := bytes.Clone(mine)
	l, is := hop.Read(mine[:len(b)])
	if !slices.Equal(l, want) || is != at {
		t.Errorf("Read(% x): %s, %v; want %s, %v", b[:min(100, len(b))], brief(l), is, brief(want), at)
	}
	if !bytes.Equal(mine, before) {
		t.Errorf("Read changed % x, or what is behind it", b[:min(100, len(b))])
	}
	clear(mine)
	if !slices.Equal(l, want) {
		t.Errorf("what was read changes with its bytes")
	}
}

// refuses: bytes are refused with a fault, by the chapter's words too.
func refuses(t *testing.T, b []byte, err api.Errno, at int) {
	t.Helper()
	if l, is := readAs(b); is != fault(err, at) || l != nil {
		t.Errorf("the model: % x: %s, %v; want %v at %d", b[:min(100, len(b))], brief(l), is, err, at)
	}
	read(t, b, nil, fault(err, at))
}

// refusesAt: a list's items are refused at an offset if the item i is another one, whatever follows it: the rest, nothing, or bytes that are wrong.
func refusesAt(t *testing.T, l [][]byte, i int, item []byte, err api.Errno) {
	t.Helper()
	at := len(slices.Concat(l[:i]...))
	head := slices.Concat(slices.Concat(l[:i]...), item)
	refuses(t, slices.Concat(head, slices.Concat(l[i+1:]...)), err, at)
	refuses(t, head, err, at)
	refuses(t, slices.Concat(head, []byte{0xff, 0x80, 0}), err, at)
}

// few are lists whose numbers have all lengths that matter.
func few() [][]api.Hop {
	return [][]api.Hop{begun(), rich(), list(one(63, 31, 0, top)), list(one(1, 2, 3, 127), one(1, 2, 3, 128), one(3, 2, 1, 20000), one(1, 2, 3, 1<<31))}
}

// TestReadsBack: P15.4 and P15.6: a list is read from its encoding.
func TestReadsBack(t *testing.T) {
	for _, l := range append(valids(), repeated(4096, one(63, 31, 30, top))) {
		read(t, encoded(l), l, api.Fault{})
	}
}

// TestReadsBackDrawn: P15.6: of drawn lists.
func TestReadsBackDrawn(t *testing.T) {
	r := source(9)
	for range 5000 {
		l := drawn(r)
		b, err := hop.Bytes(l)
		if err != api.OK || !bytes.Equal(b, encoded(l)) {
			t.Fatalf("Bytes(%v): % x, %v", l, b, err)
		}
		read(t, b, l, api.Fault{})
	}
}

// TestReadsCutOff: P15.4: bytes that end at any place, within an item or behind it.
func TestReadsCutOff(t *testing.T) {
	refuses(t, nil, api.ErrShort, 0)
	refuses(t, []byte{}, api.ErrShort, 0)
	for _, q := range few() {
		b, at := encoded(q), 0
		for _, item := range items(q) {
			for size := range item {
				refuses(t, b[:at+size], api.ErrShort, at)
			}
			at += len(item)
		}
		for _, n := range []int{len(q) + 1, 127, 4096} {
			more := slices.Concat(number(uint64(n)), b[1:])
			refuses(t, more, api.ErrShort, len(more))
		}
	}
	refuses(t, number(4096), api.ErrShort, 2)
}

// TestReadsTooMuch: P15.4: bytes that are left.
func TestReadsTooMuch(t *testing.T) {
	for _, q := range valids() {
		b := encoded(q)
		for _, more := range [][]byte{{0}, {1}, {0x80}, {0xff, 0xff}, b} {
			refuses(t, slices.Concat(b, more), api.ErrLong, len(b))
		}
	}
	for _, q := range few() {
		for n := range q {
			refuses(t, slices.Concat(number(uint64(n)), encoded(q)[1:]), api.ErrLong, len(encoded(q[:n])))
		}
	}
}

// TestReadsBeyond: P15.4: each number just and far out of its bounds.
func TestReadsBeyond(t *testing.T) {
	most := []uint64{63, 31, 31, 4294967296}
	for _, q := range few() {
		l := items(q)
		for i := range l {
			limit := uint64(4096)
			if i > 0 {
				limit = most[(i-1)%perHop]
			}
			for _, n := range []uint64{limit + 1, limit + 256, limit + 1<<32, 1<<63 - 1, 1 << 63, math.MaxUint64} {
				refusesAt(t, l, i, number(n), api.ErrRange)
			}
			if i > 0 && (i-1)%perHop == 3 {
				refusesAt(t, l, i, number(0), api.ErrRange)
			}
		}
	}
}

// TestReadsLonger: P15.4: each number written longer than it needs, or not ended.
func TestReadsLonger(t *testing.T) {
	for _, q := range few() {
		l := items(q)
		for i, item := range l {
			longer := bytes.Clone(item)
			longer[len(longer)-1] |= 0x80
			refusesAt(t, l, i, append(longer, 0), api.ErrForm)
			refusesAt(t, l, i, append(bytes.Repeat([]byte{0xff}, 9), 2), api.ErrForm)
			refusesAt(t, l, i, bytes.Repeat([]byte{0x80}, 10), api.ErrForm)
			head := slices.Concat(l[:i]...)
			refuses(t, slices.Concat(head, bytes.Repeat([]byte{0x80}, 9)), api.ErrShort, len(head))
		}
	}
}

// TestReadsSame: P15.4: Src and Dst that are the same, at the first byte of Dst, ahead of what follows.
func TestReadsSame(t *testing.T) {
	for _, q := range few() {
		l := items(q)
		for i := range q {
			refusesAt(t, l, 3+i*perHop, number(uint64(q[i].Src)), api.ErrRange)
		}
	}
	for v := range 32 {
		refuses(t, []byte{1, 63, byte(v), byte(v), 5}, api.ErrRange, 3)
		refuses(t, []byte{1, 63, byte(v), byte(v), 0}, api.ErrRange, 3)
		refuses(t, []byte{1, 63, byte(v), byte(v)}, api.ErrRange, 3)
	}
	read(t, []byte{1, 63, 0, 31, 5}, list(one(63, 0, 31, 5)), api.Fault{})
	read(t, []byte{1, 7, 7, 8, 8}, list(one(7, 7, 8, 8)), api.Fault{})
	read(t, []byte{1, 7, 8, 7, 8}, list(one(7, 8, 7, 8)), api.Fault{})
}

// TestReadsOrder: P15.4: a Created less than the one before, at its own first byte; one that is equal is read.
func TestReadsOrder(t *testing.T) {
	for _, q := range few() {
		for i := range q {
			l := items(q)
			for _, created := range []int{1, before(q, i) / 2, before(q, i) - 1} {
				if created >= 1 && created < before(q, i) {
					refusesAt(t, l, 4+i*perHop, number(uint64(created)), api.ErrOrder)
				}
			}
			if i > 0 {
				same := with(q, i, func(x *api.Hop) { x.Created = before(q, i) })
				read(t, encoded(same), same, api.Fault{})
			}
		}
	}
	refuses(t, []byte{3, 0, 1, 2, 5, 0, 1, 2, 9, 0, 1, 2, 8}, api.ErrOrder, 12)
	refuses(t, []byte{2, 0, 1, 2, 0x80, 1, 0, 1, 2, 0x7f}, api.ErrOrder, 9)
	refuses(t, []byte{2, 0, 1, 2, 0x80, 2, 0, 1, 2, 0x80, 1}, api.ErrOrder, 9)
}

// TestReadsFirst: P15.4: of several faults the first item's is told.
func TestReadsFirst(t *testing.T) {
	for _, x := range []struct {
		b   []byte
		err api.Errno
		at  int
	}{
		{[]byte{1, 64, 32, 32, 0}, api.ErrRange, 1}, {[]byte{1, 63, 32, 32, 0}, api.ErrRange, 2}, {[]byte{1, 63, 31, 32, 0}, api.ErrRange, 3}, {[]byte{1, 63, 31, 31, 0x80, 0}, api.ErrRange, 3}, {[]byte{1, 63, 31, 30, 0}, api.ErrRange, 4},
		{[]byte{1, 0, 0, 0x80, 0}, api.ErrForm, 3}, {[]byte{1, 0, 0, 0x80}, api.ErrShort, 3}, {[]byte{1, 0, 0, 0}, api.ErrRange, 3}, {[]byte{1, 0, 0, 1}, api.ErrShort, 4}, {[]byte{1, 0, 0}, api.ErrShort, 3}, {[]byte{1, 0}, api.ErrShort, 2}, {[]byte{1}, api.ErrShort, 1},
		{[]byte{2, 0, 1, 2, 9, 0, 1, 2, 0}, api.ErrRange, 8}, {[]byte{2, 0, 1, 2, 9, 0, 1, 1, 8}, api.ErrRange, 7}, {[]byte{2, 0, 1, 2, 9, 0, 1, 2, 8, 7}, api.ErrOrder, 8}, {[]byte{2, 0, 1, 2, 9, 0, 1, 2, 9, 7}, api.ErrLong, 9},
		{[]byte{2, 0, 1, 2, 9, 64, 1, 2, 8}, api.ErrRange, 5}, {[]byte{2, 0, 1, 2, 9, 0, 1, 2}, api.ErrShort, 8}, {[]byte{2, 0, 1, 2, 9}, api.ErrShort, 5}, {[]byte{3, 0, 1, 2, 9, 0, 1, 2, 8, 64}, api.ErrOrder, 8}, {[]byte{2, 0, 1, 1, 9, 64}, api.ErrRange, 3},
		{[]byte{0, 0}, api.ErrLong, 1}, {[]byte{0x80, 0x20, 64}, api.ErrRange, 2}, {[]byte{0x81, 0x20, 64}, api.ErrRange, 0}, {[]byte{0x80, 0}, api.ErrForm, 0},
	} {
		refuses(t, x.b, x.err, x.at)
	}
}

// places reads numbers by the library one after the other, and panics with the first fault.
type places struct {
	b  []byte
	at int
}

func (x *places) n(least, most uint64) int {
	n, size := binary.Uvarint(x.b[x.at:])
	switch {
	case size == 0 && len(x.b)-x.at < 10:
		panic(fault(api.ErrShort, x.at))
	case size <= 0 || size > 1 && x.b[x.at+size-1] == 0:
		panic(fault(api.ErrForm, x.at))
	case n < least || n > most:
		panic(fault(api.ErrRange, x.at))
	}
	x.at += size
	return int(n)
}

func (x *places) hop(before int) (h api.Hop) {
	h.Owner, h.Src = x.n(0, 63), x.n(0, 31)
	at := x.at
	if h.Dst = x.n(0, 31); h.Dst == h.Src {
		panic(fault(api.ErrRange, at))
	}
	at = x.at
	if h.Created = x.n(1, 4294967296); h.Created < before {
		panic(fault(api.ErrOrder, at))
	}
	return h
}

// readAs tells what the chapter's words say of bytes.
func readAs(b []byte) (l []api.Hop, is api.Fault) {
	defer func() {
		if found := recover(); found != nil {
			l, is = nil, found.(api.Fault)
		}
	}()
	x := &places{b: b}
	for range x.n(0, 4096) {
		l = append(l, x.hop(newest(l)))
	}
	if x.at < len(b) {
		panic(fault(api.ErrLong, x.at))
	}
	return l, api.Fault{}
}

// asEncoded: bytes are read by the chapter's words; what is read has them as its encoding. It tells the fault.
func asEncoded(t *testing.T, b []byte) api.Fault {
	t.Helper()
	want, is := readAs(b)
	read(t, b, want, is)
	if is != (api.Fault{}) {
		return is
	}
	if again, err := hop.Bytes(want); !bytes.Equal(again, b) || err != api.OK {
		t.Errorf("% x is read as %v, whose bytes are % x, %v", b, want, again, err)
	}
	return is
}

// muddled changes some bytes.
func muddled(r *rand.Rand, b []byte) []byte {
	b = slices.Clone(b)
	for range 1 + r.IntN(3) {
		i := r.IntN(len(b))
		switch r.IntN(6) {
		case 0:
			b[i] = byte(r.IntN(256))
		case 1:
			b[i] ^= 1 << r.IntN(8)
		case 2:
			b[i] += byte(r.IntN(3)) - 1
		case 3:
			b = slices.Insert(b, i, byte(r.IntN(256)>>r.IntN(8)))
		case 4:
			b = append(slices.Delete(b, i, i+1), byte(r.IntN(3)))
		case 5:
			j := r.IntN(len(b))
			b[i], b[j] = b[j], b[i]
		}
	}
	return b
}

// TestReadsDrawn: P15.4 and P15.6: changed encodings of drawn lists, and drawn bytes, by the chapter's words.
func TestReadsDrawn(t *testing.T) {
	r := source(10)
	count := map[api.Errno]int{}
	for range 40000 {
		b := encoded(drawn(r))
		if r.IntN(8) > 0 {
			b = muddled(r, b)
		}
		if r.IntN(8) == 0 {
			b = nil
			for range r.IntN(20) {
				b = append(b, byte(r.IntN(256)>>r.IntN(8)))
			}
		}
		count[asEncoded(t, b).Err]++
	}
	for _, err := range []api.Errno{api.OK, api.ErrRange, api.ErrLong, api.ErrForm, api.ErrShort, api.ErrOrder} {
		if count[err] < 50 {
			t.Errorf("%v: only %d", err, count[err])
		}
	}
}

// TestReadsSmall: P15.4 and P15.6: all byte strings of up to four of some bytes, alone and as the end of a list.
func TestReadsSmall(t *testing.T) {
	some := []byte{0, 1, 2, 3, 5, 9, 32, 64, 0x80, 0xff}
	rows := [][]byte{nil}
	for range 4 {
		var longer [][]byte
		for _, b := range rows {
			for _, c := range some {
				longer = append(longer, append(bytes.Clone(b), c))
			}
		}
		rows = longer
		for _, b := range rows {
			asEncoded(t, b)
			asEncoded(t, slices.Concat([]byte{1}, b))
			asEncoded(t, slices.Concat([]byte{2, 0, 2, 3, 5}, b))
		}
	}
}

func FuzzRead(f *testing.F) {
	f.Add([]byte{})
	for _, l := range few() {
		f.Add(encoded(l))
	}
	f.Fuzz(func(t *testing.T, b []byte) { asEncoded(t, b) })
}
