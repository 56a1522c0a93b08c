package message_test

import (
	"bytes"
	"math"
	"math/rand/v2"
	"slices"
	"testing"

	"distraint/api"
	"distraint/message"
)

// offset tells where the item i begins.
func offset(l [][]byte, i int) int { return len(slices.Concat(l[:i]...)) }

// unreadAt: the item i is refused where it begins, whatever follows it: the rest, nothing, one byte more, or other wrong items.
func unreadAt(t *testing.T, l [][]byte, i int, wrong []byte, err api.Errno) {
	t.Helper()
	at := offset(l, i)
	head := slices.Concat(slices.Concat(l[:i]...), wrong)
	rest := slices.Concat(l[i+1:]...)
	unread(t, slices.Concat(head, rest), err, at)
	unread(t, head, err, at)
	unread(t, slices.Concat(head, rest, []byte{0}), err, at)
	unread(t, slices.Concat(head, []byte{0xff, 0x80, 0}), err, at)
}

// eachMessage visits the items' bytes of messages of all kinds: ordinary ones, and ones at their ends.
func eachMessage(visit func(s shape, l [][]byte)) {
	for _, s := range shapes() {
		for _, l := range s.variants()[:3] {
			visit(s, s.parts(l))
		}
	}
}

// TestReadsBack: P6.2 and P6.4: each message is read from its encoding, and what is read is encoded as that.
func TestReadsBack(t *testing.T) {
	for _, s := range shapes() {
		for _, l := range s.variants() {
			want, b := s.message(l), s.bytes(l)
			m, fault := message.Read(b)
			if m != want || fault != (api.Fault{}) {
				t.Errorf("Read(% x): %v, %v; want %v", b, m, fault, want)
			}
			if again, err := message.Bytes(m); !bytes.Equal(again, b) || err != api.OK {
				t.Errorf("Bytes(%v): % x, %v; want % x", m, again, err, b)
			}
		}
	}
}

// TestOneEncodingEach: P6.4: no two messages have the same encoding, nor does one begin with that of another one.
func TestOneEncodingEach(t *testing.T) {
	of := map[string]api.Message{}
	var all []string
	for _, s := range shapes() {
		for _, l := range s.variants() {
			m := s.message(l)
			b, err := message.Bytes(m)
			if err != api.OK {
				t.Fatal(m, err)
			}
			if other, ok := of[string(b)]; ok && other != m {
				t.Errorf("%v and %v are both encoded as % x", m, other, b)
			}
			of[string(b)] = m
			all = append(all, string(b))
		}
	}
	slices.Sort(all)
	all = slices.Compact(all)
	for i, b := range all[1:] {
		if before := all[i]; len(before) < len(b) && b[:len(before)] == before {
			t.Errorf("% x begins with % x", b, before)
		}
	}
}

// TestReadsCut: P6.2: an encoding that is cut off lacks the item in which, or ahead of which, it ends. What was cut off is spare capacity.
func TestReadsCut(t *testing.T) {
	unread(t, nil, api.ErrShort, 0)
	unread(t, []byte{}, api.ErrShort, 0)
	eachMessage(func(_ shape, l [][]byte) {
		b := slices.Concat(l...)
		for i, part := range l {
			at := offset(l, i)
			for size := range part {
				unread(t, b[:at+size], api.ErrShort, at)
			}
		}
	})
}

// outside are numbers that an item may not be written as: just and far beyond its ends.
func (x item) outside() (l []uint64) {
	for _, n := range []uint64{x.most + 1, x.most + 2, x.most + 1<<8, x.most + 1<<32, 1<<63 - 1, 1 << 63, 1<<63 + x.most, 1<<63 + x.least, math.MaxUint64} {
		if n > x.most {
			l = append(l, n)
		}
	}
	for n := range x.least {
		l = append(l, n)
	}
	return l
}

// TestReadsBeyond: P6.2: each item out of its range: among them no kind, no proof, and another vote's kind.
func TestReadsBeyond(t *testing.T) {
	eachMessage(func(s shape, l [][]byte) {
		for i, x := range s.items {
			if x.isRoot() {
				continue
			}
			for _, n := range x.outside() {
				unreadAt(t, l, i, number(n), api.ErrRange)
			}
		}
	})
}

// TestReadsOtherVotes: P6.2: a whole vote of the other kind is refused at its first byte.
func TestReadsOtherVotes(t *testing.T) {
	a, p := slices.Concat([]byte{1, 3, 4, 5}, make([]byte, 32), []byte{9}), slices.Concat([]byte{2, 3, 4}, make([]byte, 32), []byte{9})
	for _, x := range []struct {
		right, wrong [][]byte
		at           int
	}{
		{[][]byte{{6, 2}, a}, [][]byte{{6, 2}, p}, 2},
		{[][]byte{{7, 2}, p}, [][]byte{{7, 2}, a}, 2},
		{[][]byte{{8, 2, 1}, a, a}, [][]byte{{8, 2, 1}, p, a}, 3},
		{[][]byte{{8, 2, 1}, a, a}, [][]byte{{8, 2, 1}, a, p}, 40},
		{[][]byte{{8, 2, 2}, a, a}, [][]byte{{8, 2, 2}, p, p}, 3},
		{[][]byte{{8, 2, 2}, a, a}, [][]byte{{8, 2, 2}, a, p}, 40},
		{[][]byte{{8, 2, 3}, p, p}, [][]byte{{8, 2, 3}, a, p}, 3},
		{[][]byte{{8, 2, 3}, p, p}, [][]byte{{8, 2, 3}, p, a}, 39},
	} {
		if m, fault := message.Read(slices.Concat(x.right...)); m.Kind != int(x.right[0][0]) || fault != (api.Fault{}) {
			t.Errorf("Read(% x): %v, %v", x.right, m, fault)
		}
		unread(t, slices.Concat(x.wrong...), api.ErrRange, x.at)
	}
}

// longer are byte strings that are not the one encoding of the number that part encodes, but may be read as it.
func longer(part []byte) (l [][]byte) {
	open := bytes.Clone(part)
	open[len(open)-1] |= 0x80
	for size := len(part); size < 10; size++ {
		l = append(l, slices.Concat(open, bytes.Repeat([]byte{0x80}, size-len(part)), []byte{0}))
	}
	return l
}

// TestReadsLonger: P6.2: each number written longer than it needs, or not as one at all.
func TestReadsLonger(t *testing.T) {
	eachMessage(func(s shape, l [][]byte) {
		for i, x := range s.items {
			if x.isRoot() {
				continue
			}
			for _, wrong := range longer(l[i]) {
				unreadAt(t, l, i, wrong, api.ErrForm)
			}
			for _, last := range []byte{0, 2, 0x7f, 0x80, 0xff} {
				unreadAt(t, l, i, append(bytes.Repeat([]byte{0xff}, 9), last), api.ErrForm)
			}
		}
	})
}

// TestReadsMore: P6.2: bytes behind the last item, one or many.
func TestReadsMore(t *testing.T) {
	eachMessage(func(_ shape, l [][]byte) {
		b := slices.Concat(l...)
		for _, more := range [][]byte{{0}, {1}, {0x80}, {0xff}, b, make([]byte, 5000)} {
			unread(t, slices.Concat(b, more), api.ErrLong, len(b))
		}
	})
}

// readsAsEncoded: P6.4: bytes are refused, or they are the encoding of the message that they are read as.
func readsAsEncoded(t *testing.T, b []byte) (read bool) {
	t.Helper()
	m, fault := message.Read(b)
	if fault != (api.Fault{}) {
		if m != (api.Message{}) || fault.Err == api.OK || fault.At < 0 || fault.At > len(b) {
			t.Errorf("Read(% x): %v, %v", b, m, fault)
		}
		return false
	}
	if again, err := message.Bytes(m); !bytes.Equal(again, b) || err != api.OK {
		t.Errorf("% x is read as %v, whose bytes are % x, %v", b, m, again, err)
	}
	return true
}

// TestReadsOneEncoding: P6.4, of bytes that differ from an encoding in one place, and of few bytes at all.
func TestReadsOneEncoding(t *testing.T) {
	read, not := 0, 0
	count := func(b []byte) {
		if readsAsEncoded(t, b) {
			read++
		} else {
			not++
		}
	}
	eachMessage(func(_ shape, l [][]byte) {
		b := slices.Concat(l...)
		for i := range b {
			for _, x := range []byte{0, 1, 2, 3, 8, 11, 12, 31, 32, 63, 64, 0x7f, 0x80, 0x81, 0xff} {
				other := bytes.Clone(b)
				other[i] = x
				count(other)
			}
		}
	})
	r := rand.New(rand.NewPCG(6, 2))
	for range 20000 {
		b := make([]byte, 1+r.IntN(8))
		for i := range b {
			b[i] = byte(r.IntN(16))
		}
		count(b)
	}
	if read < 1000 || not < 1000 {
		t.Errorf("%d are read, %d are not", read, not)
	}
}

func FuzzRead(f *testing.F) {
	for _, s := range shapes() {
		f.Add(s.bytes(s.ordinary()))
	}
	f.Fuzz(func(t *testing.T, b []byte) { readsAsEncoded(t, b) })
}
