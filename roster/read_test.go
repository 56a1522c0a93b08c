package roster_test

import (
	"bytes"
	"encoding/binary"
	"math"
	"math/rand/v2"
	"slices"
	"testing"

	"distraint/api"
	"distraint/roster"
)

func fault(err api.Errno, at int) api.Fault { return api.Fault{Err: err, At: at} }

// read: bytes are read as a roster, or refused with a fault; they stay as they are, and what is read is in memory of its own.
func read(t *testing.T, b []byte, want []api.Validator, at api.Fault) {
	t.Helper()
	mine := append(bytes.Clone(b), 1, 2, 3)
	before := bytes.Clone(mine)
	l, is := roster.Read(mine[:len(b)])
	if !slices.Equal(l, want) || is != at {
		t.Errorf("Read(% x): %s, %v; want %s, %v", b, brief(l), is, brief(want), at)
	}
	if !bytes.Equal(mine, before) {
		t.Errorf("Read changed % x, or what is behind it", b)
	}
	clear(mine)
	if !slices.Equal(l, want) {
		t.Errorf("what was read changes with its bytes")
	}
}

// refuses: bytes are refused with a fault, by the chapter's words too.
func refuses(t *testing.T, b []byte, err api.Errno, at int) {
	t.Helper()
	if l, is := readAs(b); is != fault(err, at) || l != nil {
		t.Errorf("the model: % x: %s, %v; want %v at %d", b, brief(l), is, err, at)
	}
	read(t, b, nil, fault(err, at))
}

// refusesAt: a roster's items are refused at an offset if the item i is another one, whatever follows it: the rest, nothing, or bytes that are wrong.
func refusesAt(t *testing.T, l [][]byte, i int, item []byte, err api.Errno) {
	t.Helper()
	at := len(slices.Concat(l[:i]...))
	head := slices.Concat(slices.Concat(l[:i]...), item)
	refuses(t, slices.Concat(head, slices.Concat(l[i+1:]...)), err, at)
	refuses(t, head, err, at)
	refuses(t, slices.Concat(head, []byte{0xff, 0x80, 0}), err, at)
}

// refusesWhole: a roster is refused where validator v begins if it is that one, whatever follows it; but not before its last item is read.
func refusesWhole(t *testing.T, l []api.Validator, v int, err api.Errno) {
	t.Helper()
	all := items(l)
	at := len(slices.Concat(all[:1+v*perValidator]...))
	to := len(slices.Concat(all[:1+(v+1)*perValidator]...))
	b := slices.Concat(all...)
	refuses(t, b, err, at)
	refuses(t, b[:to], err, at)
	refuses(t, slices.Concat(b[:to], []byte{0xff, 0x80, 0}), err, at)
	last := to - 1 // a validator's flags are one byte
	refuses(t, b[:last], api.ErrShort, last)
	refuses(t, append(bytes.Clone(b[:last]), 4), api.ErrRange, last)
	refuses(t, append(bytes.Clone(b[:last]), 0x80, 0), api.ErrForm, last)
}

// few are rosters whose numbers have all lengths that matter.
func few() [][]api.Validator {
	return [][]api.Validator{begun(), states(), rich(), list(one(63, great, tomb, top, both)), list(one(1, 127, jailed, 128, props), one(2, 128, active, 127, clean), one(3, 20000, idle, 1<<31, props))}
}

// TestReadsBack: P16.6 and P16.8: a roster is read from its encoding.
func TestReadsBack(t *testing.T) {
	for _, l := range append(valids(), longest()) {
		read(t, encoded(l), l, api.Fault{})
	}
}

// TestReadsBackDrawn: P16.8: of drawn rosters.
func TestReadsBackDrawn(t *testing.T) {
	r := source(3)
	for range 8000 {
		l := drawn(r)
		b, err := roster.Bytes(l)
		if err != api.OK || !bytes.Equal(b, encoded(l)) {
			t.Fatalf("Bytes(%v): % x, %v", l, b, err)
		}
		read(t, b, l, api.Fault{})
	}
}

// TestReadsCutOff: P16.6: bytes that end at any place, within an item or behind it.
func TestReadsCutOff(t *testing.T) {
	refuses(t, nil, api.ErrShort, 0)
	refuses(t, []byte{}, api.ErrShort, 0)
	for _, l := range append(few(), full(32)) {
		b, at := encoded(l), 0
		for _, item := range items(l) {
			for size := range item {
				refuses(t, b[:at+size], api.ErrShort, at)
			}
			at += len(item)
		}
		for n := len(l) + 1; n <= 32; n++ {
			more := slices.Concat(number(uint64(n)), b[1:])
			refuses(t, more, api.ErrShort, len(more))
		}
	}
}

// TestReadsTooMuch: P16.6: bytes that are left.
func TestReadsTooMuch(t *testing.T) {
	for _, l := range valids() {
		b := encoded(l)
		for _, more := range [][]byte{{0}, {1}, {0x80}, {0xff, 0xff}, b} {
			refuses(t, slices.Concat(b, more), api.ErrLong, len(b))
		}
		for n := range l {
			refuses(t, slices.Concat(number(uint64(n)), b[1:]), api.ErrLong, len(encoded(l[:n])))
		}
	}
}

// TestReadsBeyond: P16.6: each number just and far out of its bounds; MinSelf has none.
func TestReadsBeyond(t *testing.T) {
	most := []uint64{63, great, 4, 4296015872, 3}
	for _, l := range few() {
		is := items(l)
		for i := range is {
			limit := uint64(32)
			if i > 0 {
				limit = most[(i-1)%perValidator]
			}
			if limit == great {
				continue
			}
			for _, n := range []uint64{limit + 1, limit + 2, limit + 256, limit + 1<<32, 1<<63 - 1, 1 << 63, math.MaxUint64} {
				refusesAt(t, is, i, number(n), api.ErrRange)
			}
			if i > 0 && (i-1)%perValidator == 2 {
				refusesAt(t, is, i, number(0), api.ErrRange)
			}
		}
	}
}

// TestReadsLonger: P16.6: each number written longer than it needs, or not ended.
func TestReadsLonger(t *testing.T) {
	for _, l := range few() {
		is := items(l)
		for i, item := range is {
			if len(item) < 10 {
				longer := bytes.Clone(item)
				longer[len(longer)-1] |= 0x80
				refusesAt(t, is, i, append(longer, 0), api.ErrForm)
			}
			refusesAt(t, is, i, append(bytes.Repeat([]byte{0xff}, 9), 2), api.ErrForm)
			refusesAt(t, is, i, bytes.Repeat([]byte{0x80}, 10), api.ErrForm)
			head := slices.Concat(is[:i]...)
			refuses(t, slices.Concat(head, bytes.Repeat([]byte{0x80}, 9)), api.ErrShort, len(head))
		}
	}
}

// encodable tells whether a validator has an encoding in which each number is within its bounds.
func encodable(x api.Validator) bool {
	return x.Operator >= 0 && x.Operator < 64 && x.Status >= 1 && x.Status <= 4 && x.Until >= 0 && x.Until <= top
}

// TestReadsWrong: P16.6: each validator broken in each way that its numbers' bounds allow, with the error that Check would return, at its first byte.
func TestReadsWrong(t *testing.T) {
	found := map[api.Errno]int{}
	for _, l := range append(few(), full(32)) {
		for _, s := range spoilers() {
			for v := range l {
				spoiled, can := s.spoiled(l, v)
				if can && encodable(spoiled[v]) {
					refusesWhole(t, spoiled, v, s.err)
					found[s.err]++
				}
			}
		}
	}
	for _, err := range []api.Errno{api.ErrArg, api.ErrDouble, api.ErrState} {
		if found[err] < 50 {
			t.Errorf("%v: only %d", err, found[err])
		}
	}
}

// TestReadsStates: P16.6: each status with each number for the flags, without and with an Until, behind a validator and alone.
func TestReadsStates(t *testing.T) {
	first := one(5, 1, idle, 0, clean)
	for _, operator := range []int{5, 6} {
		for _, least := range []uint64{0, 1, great} {
			for status := 1; status <= 4; status++ {
				for _, until := range []int{0, 1, top} {
					for flags := range 4 {
						x := one(operator, least, status, until, flags)
						for _, l := range [][]api.Validator{list(x), list(first, x), list(x, first), list(first, x, x), list(x, x, first)} {
							if err, at := checked(l); err != api.OK {
								refusesWhole(t, l, at, err)
							} else {
								read(t, encoded(l), l, api.Fault{})
							}
						}
					}
				}
			}
		}
	}
}

// TestReadsFirst: P16.6: of several faults that of the first item is told, and what Check says of a validator before all that is behind it.
func TestReadsFirst(t *testing.T) {
	for _, x := range []struct {
		b   []byte
		err api.Errno
		at  int
	}{
		{[]byte{33, 64}, api.ErrRange, 0}, {[]byte{1, 64, 0, 5, 0, 4}, api.ErrRange, 1}, {[]byte{1, 5, 0x80, 0, 5, 0, 4}, api.ErrForm, 2}, {[]byte{1, 5, 0, 5, 0, 4}, api.ErrRange, 3}, {[]byte{1, 5, 0, 0, 0, 4}, api.ErrRange, 3}, {[]byte{1, 5, 0, 1, 0, 4}, api.ErrRange, 5}, {[]byte{1, 5, 0, 1, 0, 3, 9}, api.ErrArg, 1}, {[]byte{1, 5, 1, 1, 0, 3, 9}, api.ErrState, 1}, {[]byte{1, 5, 1, 1, 0, 0, 9}, api.ErrLong, 6},
		{[]byte{1, 5, 1, 3, 0, 0}, api.ErrState, 1}, {[]byte{1, 5, 1, 3, 1, 0}, api.OK, 0}, {[]byte{1, 5, 1, 4, 1, 0}, api.ErrState, 1}, {[]byte{1, 5, 1, 4, 1, 1}, api.OK, 0}, {[]byte{1, 5, 1, 4, 0, 1}, api.ErrState, 1}, {[]byte{1, 5, 1, 4, 1, 2}, api.ErrState, 1}, {[]byte{1, 5, 1, 4, 1, 3}, api.OK, 0}, {[]byte{1, 5, 1, 1, 0, 2}, api.ErrState, 1}, {[]byte{1, 5, 1, 1, 1, 2}, api.OK, 0}, {[]byte{1, 5, 1, 2, 1, 1}, api.ErrState, 1},
		{[]byte{2, 5, 1, 1, 0, 0, 5, 0, 1, 0, 0}, api.ErrArg, 6}, {[]byte{2, 5, 1, 1, 0, 0, 5, 1, 1, 0, 1}, api.ErrDouble, 6}, {[]byte{2, 5, 1, 1, 0, 0, 6, 1, 1, 0, 1}, api.ErrState, 6}, {[]byte{2, 5, 0, 1, 0, 0, 64}, api.ErrArg, 1}, {[]byte{2, 5, 0, 1, 0, 0}, api.ErrArg, 1}, {[]byte{2, 5, 1, 1, 0, 0}, api.ErrShort, 6}, {[]byte{2, 5, 1, 1, 0, 0, 5}, api.ErrShort, 7}, {[]byte{2, 5, 1, 1, 0, 0, 5, 1, 1, 0}, api.ErrShort, 10}, {[]byte{2, 5, 1, 1, 0, 0, 5, 1, 1, 0, 0, 0}, api.ErrDouble, 6},
		{[]byte{3, 5, 0x80, 1, 1, 0, 0, 5, 1, 1, 0, 0, 64}, api.ErrDouble, 7}, {[]byte{3, 5, 1, 1, 0, 0, 6, 1, 1, 0, 0, 5, 1, 1, 0, 0}, api.ErrDouble, 11}, {[]byte{3, 5, 1, 1, 0, 0, 6, 1, 1, 0, 0, 6, 1, 1, 0, 0}, api.ErrDouble, 11},
		{[]byte{0, 0}, api.ErrLong, 1}, {[]byte{0x80, 0}, api.ErrForm, 0}, {[]byte{0xa0, 0}, api.ErrForm, 0}, {[]byte{0x80}, api.ErrShort, 0}, {[]byte{32}, api.ErrShort, 1},
	} {
		if x.err != api.OK {
			refuses(t, x.b, x.err, x.at)
		} else if is := asEncoded(t, x.b); is != (api.Fault{}) {
			t.Errorf("% x: %v", x.b, is)
		}
	}
}

// places reads numbers by the library one after the other, and panics with the first fault.
type places struct {
	b  []byte
	at int
}

func (x *places) n(least, most uint64) uint64 {
	n, size := binary.Uvarint(x.b[x.at:])
	switch {
	case size == 0 && len(x.b)-x.at < 10:
		panic(fault(api.ErrShort, x.at))
	case size <= 0 || size > 1 && x.b[x.at+size-1] == 0:
		panic(fault(api.ErrForm, x.at))
	case n < least || n > most:
		panic(fault(api.ErrRange, x.at))
	}
	x.at += size
	return n
}

// readAs tells what the chapter's words say of bytes.
func readAs(b []byte) (l []api.Validator, is api.Fault) {
	defer func() {
		if found := recover(); found != nil {
			l, is = nil, found.(api.Fault)
		}
	}()
	x := &places{b: b}
	for i := range x.n(0, 32) {
		at := x.at
		l = append(l, one(int(x.n(0, 63)), x.n(0, great), int(x.n(1, 4)), int(x.n(0, 4296015872)), int(x.n(0, 3))))
		if err := wrong(l, int(i)); err != api.OK {
			panic(fault(err, at))
		}
	}
	if x.at < len(b) {
		panic(fault(api.ErrLong, x.at))
	}
	return l, api.Fault{}
}

// asEncoded: bytes are read by the chapter's words; what is read has them as its encoding. It tells the fault.
func asEncoded(t *testing.T, b []byte) api.Fault {
	t.Helper()
	want, is := readAs(b)
	read(t, b, want, is)
	if is != (api.Fault{}) {
		return is
	}
	if again, err := roster.Bytes(want); !bytes.Equal(again, b) || err != api.OK {
		t.Errorf("% x is read as %v, whose bytes are % x, %v", b, want, again, err)
	}
	return is
}

// muddled changes some bytes.
func muddled(r *rand.Rand, b []byte) []byte {
	b = slices.Clone(b)
	for range 1 + r.IntN(3) {
		i := r.IntN(len(b))
		switch r.IntN(6) {
		case 0:
			b[i] = byte(r.IntN(256))
		case 1:
			b[i] ^= 1 << r.IntN(8)
		case 2:
			b[i] += byte(r.IntN(3)) - 1
		case 3:
			b = slices.Insert(b, i, byte(r.IntN(256)>>r.IntN(8)))
		case 4:
			b = append(slices.Delete(b, i, i+1), byte(r.IntN(3)))
		case 5:
			j := r.IntN(len(b))
			b[i], b[j] = b[j], b[i]
		}
	}
	return b
}

// TestReadsDrawn: P16.6 and P16.8: changed encodings of drawn rosters, and drawn bytes, by the chapter's words.
func TestReadsDrawn(t *testing.T) {
	r := source(4)
	count := map[api.Errno]int{}
	for range 100000 {
		b := encoded(drawn(r))
		if r.IntN(8) > 0 {
			b = muddled(r, b)
		}
		if r.IntN(8) == 0 {
			b = []byte{byte(r.IntN(3))}
			for range r.IntN(20) {
				b = append(b, byte(r.IntN(256)>>r.IntN(8)))
			}
		}
		count[asEncoded(t, b).Err]++
	}
	for _, err := range []api.Errno{api.OK, api.ErrRange, api.ErrLong, api.ErrForm, api.ErrShort, api.ErrArg, api.ErrDouble, api.ErrState} {
		if count[err] < 50 {
			t.Errorf("%v: only %d", err, count[err])
		}
	}
}

// TestReadsSmall: P16.6 and P16.8: all byte strings of up to five of some bytes, alone and as the end of a roster.
func TestReadsSmall(t *testing.T) {
	some := []byte{0, 1, 2, 3, 4, 5, 0x80}
	rows := [][]byte{nil}
	for range 5 {
		var longer [][]byte
		for _, b := range rows {
			for _, c := range some {
				longer = append(longer, append(bytes.Clone(b), c))
			}
		}
		rows = longer
		for _, b := range rows {
			asEncoded(t, b)
			asEncoded(t, slices.Concat([]byte{1}, b))
			asEncoded(t, slices.Concat([]byte{2, 5, 1, 1, 0, 0}, b))
		}
	}
}

func FuzzRead(f *testing.F) {
	f.Add([]byte{})
	for _, l := range few() {
		f.Add(encoded(l))
	}
	f.Fuzz(func(t *testing.T, b []byte) { asEncoded(t, b) })
}
