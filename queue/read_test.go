package queue_test

import (
	"bytes"
	"encoding/binary"
	"math"
	"math/rand/v2"
	"slices"
	"testing"

	"distraint/api"
	"distraint/queue"
	"distraint/stamp"
)

func fault(err api.Errno, at int) api.Fault { return api.Fault{Err: err, At: at} }

// read: bytes are read as a queue, or refused with a fault; they stay as they are, and what is read is in memory of its own.
func read(t *testing.T, b []byte, want []api.Entry, at api.Fault) {
	t.Helper()
	mine := append(bytes.Clone(b), 1, 2, 3)
	before := bytes.Clone(mine)
	l, is := queue.Read(mine[:len(b)])
	if !slices.Equal(l, want) || is != at {
		t.Errorf("Read(% x): %s, %v; want %s, %v", b[:min(100, len(b))], brief(l), is, brief(want), at)
	}
	if !bytes.Equal(mine, before) {
		t.Errorf("Read changed % x, or what is behind it", b[:min(100, len(b))])
	}
	clear(mine)
	if !slices.Equal(l, want) {
		t.Errorf("what was read changes with its bytes")
	}
}

// refuses: bytes are refused with a fault, by the chapter's words too.
func refuses(t *testing.T, b []byte, err api.Errno, at int) {
	t.Helper()
	if l, is := readAs(b); is != fault(err, at) || l != nil {
		t.Errorf("the model: % x: %s, %v; want %v at %d", b[:min(100, len(b))], brief(l), is, err, at)
	}
	read(t, b, nil, fault(err, at))
}

// refusesAt: a queue's items are refused at an offset if the item i is another one, whatever follows it: the rest, nothing, or bytes that are wrong.
func refusesAt(t *testing.T, l [][]byte, i int, item []byte, err api.Errno, at int) {
	t.Helper()
	head := slices.Concat(slices.Concat(l[:i]...), item)
	refuses(t, slices.Concat(head, slices.Concat(l[i+1:]...)), err, at)
	refuses(t, head, err, at)
	refuses(t, slices.Concat(head, []byte{0xff, 0x80, 0}), err, at)
}

// offset tells where the item i begins.
func offset(l [][]byte, i int) int { return len(slices.Concat(l[:i]...)) }

// few are queues whose numbers have all lengths that matter.
func few() [][]api.Entry {
	return [][]api.Entry{begun(), rich(), list(entry(63, hopped(31, 300, 0, 128), top, most)), list(entry(0, bare(0, 1), 1, 1), cutTo(entry(1, hopped(1, 200, 2, 200), 20000, m), 0))}
}

// TestReadsBack: P14.6 and P14.9: a queue is read from its encoding, also if that is longer than Bytes tells.
func TestReadsBack(t *testing.T) {
	for _, l := range append(valids(), wide(3), wide(0), repeated(32768, cutTo(entry(63, hopped(31, top, 30, top), top, m), most>>15))) {
		read(t, encoded(l), l, api.Fault{})
	}
}

// TestReadsBackDrawn: P14.9: of drawn queues.
func TestReadsBackDrawn(t *testing.T) {
	r := source(9)
	for range 5000 {
		l := drawn(r)
		b, err := queue.Bytes(l)
		if err != api.OK || !bytes.Equal(b, encoded(l)) {
			t.Fatalf("Bytes(%v): % x, %v", l, b, err)
		}
		read(t, b, l, api.Fault{})
	}
}

// TestReadsCutOff: P14.6: bytes that end at any place, within an item or behind it.
func TestReadsCutOff(t *testing.T) {
	refuses(t, nil, api.ErrShort, 0)
	refuses(t, []byte{}, api.ErrShort, 0)
	for _, q := range few() {
		b, at := encoded(q), 0
		for _, item := range items(q) {
			for size := range item {
				refuses(t, b[:at+size], api.ErrShort, at)
			}
			at += len(item)
		}
		for _, n := range []int{len(q) + 1, 127, 32768} {
			more := slices.Concat(number(uint64(n)), b[1:])
			refuses(t, more, api.ErrShort, len(more))
		}
	}
	refuses(t, number(32768), api.ErrShort, 3)
}

// TestReadsTooMuch: P14.6: bytes that are left, ahead of Balances whose sum is too great.
func TestReadsTooMuch(t *testing.T) {
	for _, q := range append(some(), repeated(2, entry(0, bare(2, 5), 9, most))) {
		b := encoded(q)
		for _, more := range [][]byte{{0}, {1}, {0x80}, {0xff, 0xff}, b} {
			refuses(t, slices.Concat(b, more), api.ErrLong, len(b))
		}
	}
	for _, q := range few() {
		for n := range q {
			refuses(t, slices.Concat(number(uint64(n)), encoded(q)[1:]), api.ErrLong, len(encoded(q[:n])))
		}
	}
}

// TestReadsBeyond: P14.6: each number just and far out of its bounds; of Initial and Balance, all numbers are read.
func TestReadsBeyond(t *testing.T) {
	most := []uint64{63, 31, 4294967296, 32, 4294967296, 4294967296}
	for _, q := range few() {
		l := items(q)
		for i := range l {
			limit := uint64(32768)
			if i > 0 && (i-1)%perEntry >= len(most) {
				continue
			}
			if i > 0 {
				limit = most[(i-1)%perEntry]
			}
			for _, n := range []uint64{limit + 1, limit + 256, limit + 1<<32, 1<<63 - 1, 1 << 63, math.MaxUint64} {
				refusesAt(t, l, i, number(n), api.ErrRange, offset(l, i))
			}
			if place := (i - 1) % perEntry; i > 0 && (place == 2 || place == 5) {
				refusesAt(t, l, i, number(0), api.ErrRange, offset(l, i))
			}
		}
	}
}

// TestReadsLonger: P14.6: each number written longer than it needs, or not ended, that of amounts too.
func TestReadsLonger(t *testing.T) {
	for _, q := range few() {
		l := items(q)
		for i, item := range l {
			longer := bytes.Clone(item)
			longer[len(longer)-1] |= 0x80
			at := offset(l, i)
			if len(item) < 10 {
				refusesAt(t, l, i, append(longer, 0), api.ErrForm, at)
			}
			refusesAt(t, l, i, append(bytes.Repeat([]byte{0xff}, 9), 2), api.ErrForm, at)
			refusesAt(t, l, i, bytes.Repeat([]byte{0x80}, 10), api.ErrForm, at)
			refuses(t, slices.Concat(slices.Concat(l[:i]...), bytes.Repeat([]byte{0x80}, 9)), api.ErrShort, at)
		}
	}
}

// TestReadsStamps: P14.6: what is wrong with a stamp is told at its first byte, ahead of what is behind it and of what is wrong with its entry.
func TestReadsStamps(t *testing.T) {
	for _, x := range []struct {
		s   api.Stamp
		err api.Errno
	}{
		{hopped(2, 5, 2, 5), api.ErrArg}, {hopped(2, 5, 2, 0), api.ErrArg}, {hopped(2, 5, -1, 5), api.ErrState}, {hopped(2, 5, -1, 9), api.ErrState}, {hopped(2, 5, 1, 0), api.ErrState}, {hopped(2, 5, 1, 6), api.ErrOrder}, {hopped(2, 5, 1, top), api.ErrOrder},
	} {
		for i := range 3 {
			for _, created := range []int{1, 9, 20} {
				for _, balance := range []uint64{0, 7, 8} {
					q := with(begun(), i, func(e *api.Entry) { *e = cutTo(entry(i, x.s, created, 7), balance) })
					l, last := items(q), 1+i*perEntry+4
					refusesAt(t, l, last, l[last], x.err, offset(l, 1+i*perEntry)+1)
				}
			}
		}
	}
}

// TestReadsRules: P14.6: each rule for entries is told at the entry's first byte, when all of the entry was read.
func TestReadsRules(t *testing.T) {
	for _, s := range spoilers() {
		if s.err == api.ErrRange {
			continue
		}
		for _, q := range [][]api.Entry{begun(), rich(), list(entry(5, bare(7, 3), 3, 5), entry(6, bare(8, 3), 300, 5), entry(5, bare(7, 3), 70000, 5))} {
			for i := range q {
				spoiled, can := s.spoiled(q, i)
				if !can {
					continue
				}
				l, last := items(spoiled), i*perEntry+8
				refusesAt(t, l, last, l[last], s.err, offset(l, 1+i*perEntry))
				if s.err != api.ErrState {
					refuses(t, slices.Concat(slices.Concat(l[:last]...), []byte{0x80, 0}), api.ErrForm, offset(l, last))
				}
			}
		}
	}
}

// TestReadsSum: P14.6: Balances whose sum is 2^62 are read; if it is more, be it beyond 2^64, the fault is at 0.
func TestReadsSum(t *testing.T) {
	s := bare(2, 5)
	read(t, encoded(list(entry(0, s, 5, most-1), entry(0, s, 5, 1))), list(entry(0, s, 5, most-1), entry(0, s, 5, 1)), api.Fault{})
	for _, q := range [][]api.Entry{
		list(entry(0, s, 5, most+1)), list(entry(0, s, 5, m)), list(entry(0, s, 5, most), entry(0, s, 5, 1)), list(entry(0, s, 5, most-1), entry(0, s, 5, 2)),
		repeated(2, entry(0, s, 5, most)), repeated(4, entry(0, s, 5, most)), repeated(5, entry(0, s, 5, most)), list(entry(0, s, 5, m), entry(0, s, 5, 1)), list(entry(0, s, 5, m), entry(0, s, 5, 1), entry(0, s, 5, 7)), repeated(32768, entry(0, s, 5, most)),
	} {
		refuses(t, encoded(q), api.ErrOver, 0)
		refuses(t, append(encoded(q), 0), api.ErrLong, len(encoded(q)))
	}
	q := append(repeated(2, entry(0, s, 5, most)), entry(0, s, 5, 0))
	refuses(t, encoded(q), api.ErrDust, offset(items(q), 17))
}

// TestReadsFirst: P14.6: of several faults the first item's is told.
func TestReadsFirst(t *testing.T) {
	for _, x := range []struct {
		b   []byte
		err api.Errno
		at  int
	}{
		{[]byte{1, 64, 32, 0}, api.ErrRange, 1}, {[]byte{1, 63, 32, 0}, api.ErrRange, 2}, {[]byte{1, 63, 31, 0, 33}, api.ErrRange, 3}, {[]byte{1, 63, 31, 5, 33, 0x80, 0}, api.ErrRange, 4},
		{[]byte{1, 0, 2, 5, 3, 0x80, 0}, api.ErrForm, 5}, {[]byte{1, 0, 2, 5, 3, 5, 0, 0, 1}, api.ErrArg, 2}, {[]byte{1, 0, 2, 5, 3, 5}, api.ErrArg, 2}, {[]byte{1, 0, 2, 5, 3}, api.ErrShort, 5},
		{[]byte{1, 0, 2, 5, 0, 0, 0, 0, 1}, api.ErrRange, 6}, {[]byte{1, 0, 2, 5, 0, 0, 4, 0x80, 0}, api.ErrForm, 7}, {[]byte{1, 0, 2, 5, 0, 0, 4, 0}, api.ErrShort, 8}, {[]byte{1, 0, 2, 5, 0, 0, 4, 0, 1}, api.ErrOrder, 1},
		{[]byte{1, 0, 2, 5, 0, 0, 5, 0, 1}, api.ErrDust, 1}, {[]byte{1, 0, 2, 5, 0, 0, 5, 1, 2}, api.ErrState, 1}, {[]byte{1, 0, 2, 5, 0, 0, 5, 1, 2, 9}, api.ErrState, 1}, {[]byte{1, 0, 2, 5, 0, 0, 5, 2, 1, 9}, api.ErrLong, 9},
		{[]byte{2, 0, 2, 5, 0, 0, 9, 1, 1, 0, 2, 5, 0, 0, 8, 0, 1}, api.ErrOrder, 9}, {[]byte{2, 0, 2, 5, 0, 0, 9, 1, 1, 0, 2, 5, 0, 0, 9, 0, 1}, api.ErrDust, 9}, {[]byte{2, 0, 2, 5, 0, 0, 9, 0, 1, 64}, api.ErrDust, 1}, {[]byte{2, 0, 2, 5, 0, 0, 9, 1, 1, 64}, api.ErrRange, 9},
		{[]byte{2, 0, 2, 5, 0, 0, 9, 1, 1}, api.ErrShort, 9}, {[]byte{0, 0}, api.ErrLong, 1}, {[]byte{0x80, 0x80, 2, 64}, api.ErrRange, 3}, {[]byte{0x81, 0x80, 2, 64}, api.ErrRange, 0},
	} {
		refuses(t, x.b, x.err, x.at)
	}
}

// places reads numbers by the library one after the other, and panics with the first fault.
type places struct {
	b  []byte
	at int
}

func (x *places) n(least, most uint64) uint64 {
	n, size := binary.Uvarint(x.b[x.at:])
	switch {
	case size == 0 && len(x.b)-x.at < 10:
		panic(fault(api.ErrShort, x.at))
	case size <= 0 || size > 1 && x.b[x.at+size-1] == 0:
		panic(fault(api.ErrForm, x.at))
	case n < least || n > most:
		panic(fault(api.ErrRange, x.at))
	}
	x.at += size
	return n
}

func (x *places) entry(before int) (e api.Entry) {
	first := x.at
	e.Owner = int(x.n(0, 63))
	behind := x.at
	e.Stamp = hopped(int(x.n(0, 31)), int(x.n(1, 4294967296)), int(x.n(0, 32))-1, int(x.n(0, 4294967296)))
	if err := stamp.Check(e.Stamp); err != api.OK {
		panic(fault(err, behind))
	}
	e.Created = int(x.n(1, 4294967296))
	e.Initial = x.n(0, math.MaxUint64)
	e.Balance = x.n(0, math.MaxUint64)
	if err := wrong(e, before); err != api.OK {
		panic(fault(err, first))
	}
	return e
}

// readAs tells what the chapter's words say of bytes.
func readAs(b []byte) (l []api.Entry, is api.Fault) {
	defer func() {
		if found := recover(); found != nil {
			l, is = nil, found.(api.Fault)
		}
	}()
	x := &places{b: b}
	for range x.n(0, 32768) {
		l = append(l, x.entry(newest(l)))
	}
	if x.at < len(b) {
		panic(fault(api.ErrLong, x.at))
	}
	if tooMuch(l) {
		panic(fault(api.ErrOver, 0))
	}
	return l, api.Fault{}
}

// asEncoded: bytes are read by the chapter's words; what is read has them as its encoding. It tells the fault.
func asEncoded(t *testing.T, b []byte) api.Fault {
	t.Helper()
	want, is := readAs(b)
	read(t, b, want, is)
	if is != (api.Fault{}) {
		return is
	}
	again, err := queue.Bytes(want)
	if len(b) > 1<<20 {
		if err != api.ErrLong || again != nil {
			t.Errorf("%d bytes are read, and told as %d, %v", len(b), len(again), err)
		}
	} else if !bytes.Equal(again, b) || err != api.OK {
		t.Errorf("% x is read as %v, whose bytes are % x, %v", b, want, again, err)
	}
	return is
}

// muddled changes some bytes.
func muddled(r *rand.Rand, b []byte) []byte {
	b = slices.Clone(b)
	for range 1 + r.IntN(3) {
		i := r.IntN(len(b))
		switch r.IntN(6) {
		case 0:
			b[i] = byte(r.IntN(256))
		case 1:
			b[i] ^= 1 << r.IntN(8)
		case 2:
			b[i] += byte(r.IntN(3)) - 1
		case 3:
			b = slices.Insert(b, i, byte(r.IntN(256)>>r.IntN(8)))
		case 4:
			b = append(slices.Delete(b, i, i+1), byte(r.IntN(3)))
		case 5:
			j := r.IntN(len(b))
			b[i], b[j] = b[j], b[i]
		}
	}
	return b
}

// TestReadsDrawn: P14.6 and P14.9: changed encodings of drawn queues, and drawn bytes, by the chapter's words.
func TestReadsDrawn(t *testing.T) {
	r := source(10)
	count := map[api.Errno]int{}
	for range 40000 {
		l := drawn(r)
		if len(l) > 0 && r.IntN(10) == 0 {
			x := &l[r.IntN(len(l))]
			x.Initial, x.Balance = m, most+r.Uint64N(3*most)
		}
		b := encoded(l)
		if r.IntN(8) > 0 {
			b = muddled(r, b)
		}
		if r.IntN(8) == 0 {
			b = nil
			for range r.IntN(30) {
				b = append(b, byte(r.IntN(256)>>r.IntN(8)))
			}
		}
		count[asEncoded(t, b).Err]++
	}
	for _, err := range []api.Errno{api.OK, api.ErrArg, api.ErrRange, api.ErrLong, api.ErrForm, api.ErrShort, api.ErrOrder, api.ErrState, api.ErrOver, api.ErrDust} {
		if count[err] < 50 {
			t.Errorf("%v: only %d", err, count[err])
		}
	}
}

// TestReadsSmall: P14.6 and P14.9: all byte strings of up to four of some bytes, alone and as the end of an entry.
func TestReadsSmall(t *testing.T) {
	some := []byte{0, 1, 2, 3, 5, 9, 32, 64, 0x80, 0xff}
	rows := [][]byte{nil}
	for range 4 {
		var longer [][]byte
		for _, b := range rows {
			for _, c := range some {
				longer = append(longer, append(bytes.Clone(b), c))
			}
		}
		rows = longer
		for _, b := range rows {
			asEncoded(t, b)
			asEncoded(t, slices.Concat([]byte{1, 0, 2, 3, 1}, b))
			asEncoded(t, slices.Concat([]byte{2, 0, 2, 3, 0, 0, 4, 5, 5, 1, 3, 2, 0, 0}, b))
		}
	}
}

func FuzzRead(f *testing.F) {
	f.Add([]byte{})
	for _, l := range few() {
		f.Add(encoded(l))
	}
	f.Fuzz(func(t *testing.T, b []byte) { asEncoded(t, b) })
}
