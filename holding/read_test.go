package holding_test

import (
	"math/rand/v2"
	"slices"
	"testing"

	"distraint/api"
	"distraint/codec"
	"distraint/holding"
	"distraint/share"
	"distraint/stamp"
)

// refusesItem: h, of which item i is the last one that is read, is refused at the item at, whatever follows.
func refusesItem(t *testing.T, h api.Holding, i int, err api.Errno, at int) {
	t.Helper()
	l := items(h)
	refusesAt(t, l, i, l[i], err, at)
}

// TestReadsPools: P13.6: what is wrong with a pool is told at the first byte of its class, when all of the class was read.
func TestReadsPools(t *testing.T) {
	for err, l := range invalidPools() {
		for _, p := range l {
			for _, h := range []api.Holding{begun(), rich()} {
				for i, c := range h.Classes {
					refusesItem(t, spoil(h, i, api.Class{Stamp: c.Stamp, Pool: p}), classAt(i)+5, err, classAt(i))
				}
			}
		}
	}
}

// TestReadsOrder: P13.6: stamps of classes, and positions, that are equal to those before them, or less: at the first byte of the second one, ahead of what is wrong with its pool or its shares.
func TestReadsOrder(t *testing.T) {
	h := rich()
	for i := 1; i < len(h.Classes); i++ {
		for j := range i {
			for _, p := range []api.Pool{pool(5, 5), {}, pool(5, 4), pool(0, 1), pool(m, m)} {
				refusesItem(t, spoil(h, i, api.Class{Stamp: h.Classes[j].Stamp, Pool: p}), classAt(i)+5, api.ErrOrder, classAt(i))
			}
		}
	}
	for i := 1; i < len(h.Positions); i++ {
		for j := range i {
			for _, shares := range []uint64{0, 1, m} {
				was := h.Positions[j]
				again := with(h, func(h *api.Holding) { h.Positions[i] = part(was.Owner, was.Stamp, shares) })
				refusesItem(t, again, positionAt(h, i)+5, api.ErrOrder, positionAt(h, i))
			}
		}
	}
	a, b := bare(2, 5), bare(3, 6)
	for _, l := range [][]api.Position{{part(1, a, 1), part(0, b, 1)}, {part(1, b, 1), part(1, a, 1)}, {part(1, a, 1), part(1, a, 1)}, {part(63, a, 1), part(0, a, 1)}} {
		h := of(nil, l...)
		refusesItem(t, h, positionAt(h, 1)+5, api.ErrOrder, positionAt(h, 1))
	}
}

// TestReadsWhole: P13.6: what is wrong with a holding whose items are all well is told at 0, when nothing is left.
func TestReadsWhole(t *testing.T) {
	a, b, none := bare(2, 5), bare(3, 6), bare(2, 6)
	l := classes(class(a, 20, 20), class(b, 7, 7))
	for _, x := range []wrong{
		{of(classes(class(a, most, most), class(b, 1, 1)), part(0, a, most), part(0, b, 1)), api.ErrOver},
		{of(classes(class(a, most, most), class(b, most, most), class(bare(4, 1), most, most), class(bare(5, 1), most, most)), part(0, a, 0)), api.ErrOver},
		{of(l, part(0, a, 20), part(0, b, 0)), api.ErrDust},
		{of(l, part(0, a, 0), part(0, none, 7)), api.ErrDust},
		{of(l, part(0, a, 20), part(0, none, 7), part(0, b, 0)), api.ErrUnknown},
		{of(nil, part(0, a, 1)), api.ErrUnknown},
		{of(l), api.ErrState},
		{of(l, part(0, a, 20), part(0, b, 6)), api.ErrState},
		{of(l, part(0, a, 20), part(0, b, 8)), api.ErrState},
		{of(l, part(0, a, 20), part(0, b, 7), part(1, a, m)), api.ErrState},
	} {
		if is := checked(x.h); is != x.err {
			t.Errorf("the model: %v: %v; want %v", x.h, is, x.err)
		}
		refuses(t, encoded(x.h), x.err, 0)
	}
}

// TestReadsFirst: P13.6: of several faults the first item's is told.
func TestReadsFirst(t *testing.T) {
	for _, x := range []struct {
		b    []byte
		want api.Fault
	}{
		{[]byte{1, 2, 5, 0, 0, 5, 4, 0x80, 0}, fault(api.ErrOrder, 1)},
		{[]byte{1, 2, 5, 0, 0, 5, 0x80, 0}, fault(api.ErrForm, 6)},
		{[]byte{1, 2, 5, 0, 0, 5}, fault(api.ErrShort, 6)},
		{[]byte{1, 2, 5, 3, 5, 5, 4}, fault(api.ErrArg, 1)},
		{[]byte{1, 2, 5, 3, 0x80, 0, 5, 4}, fault(api.ErrForm, 4)},
		{[]byte{1, 32, 0, 3, 0x80, 0, 5, 4}, fault(api.ErrRange, 1)},
		{[]byte{2, 2, 5, 0, 0, 5, 5, 2, 5, 0, 0, 0, 1}, fault(api.ErrOrder, 7)},
		{[]byte{2, 2, 5, 0, 0, 5, 5, 2, 5, 0, 0, 0, 0x80, 0}, fault(api.ErrForm, 12)},
		{[]byte{2, 2, 5, 0, 0, 5, 5, 2, 5, 3, 5, 0, 0}, fault(api.ErrArg, 7)},
		{[]byte{2, 2, 5, 0, 0, 0, 1, 2, 5, 0, 0, 5, 5}, fault(api.ErrState, 1)},
		{[]byte{0, 1, 64, 32, 0}, fault(api.ErrRange, 2)},
		{[]byte{0, 1, 63, 32, 0}, fault(api.ErrRange, 3)},
		{[]byte{0, 1, 63, 2, 5, 3, 5, 0x80, 0}, fault(api.ErrArg, 3)},
		{[]byte{0, 2, 1, 2, 5, 0, 0, 0, 1, 2, 5, 0, 0, 0x80, 0}, fault(api.ErrForm, 13)},
		{[]byte{0, 2, 1, 2, 5, 0, 0, 0, 1, 2, 5, 0, 0, 0}, fault(api.ErrOrder, 8)},
		{[]byte{0, 2, 1, 2, 5, 0, 0, 0, 1, 2, 5, 0, 0}, fault(api.ErrShort, 13)},
		{[]byte{0, 1, 1, 2, 5, 0, 0, 0, 9}, fault(api.ErrLong, 8)},
		{[]byte{0, 1, 1, 2, 5, 0, 0, 0}, fault(api.ErrDust, 0)},
		{[]byte{0, 1, 1, 2, 5, 0, 0, 1}, fault(api.ErrUnknown, 0)},
		{[]byte{1, 2, 5, 0, 0, 5, 5, 0}, fault(api.ErrState, 0)},
		{[]byte{1, 2, 5, 0, 0, 5, 5, 0, 7}, fault(api.ErrLong, 8)},
		{[]byte{0}, fault(api.ErrShort, 1)},
		{[]byte{0, 0, 0}, fault(api.ErrLong, 2)},
	} {
		reads(t, x.b, api.Holding{}, x.want)
		if h, is := readAs(x.b); is != x.want || !same(h, api.Holding{}) {
			t.Errorf("the model: % x: %v, %v; want %v", x.b, h, is, x.want)
		}
	}
}

// places reads items one after the other, and panics with the first fault.
type places struct {
	b  []byte
	at int
}

func (x *places) u() uint64 {
	n, to, fault := codec.Get(x.b, x.at)
	if fault.Err != api.OK {
		panic(fault)
	}
	x.at = to
	return n
}

func (x *places) n(least, most uint64) int {
	at := x.at
	n := x.u()
	if n < least || n > most {
		panic(fault(api.ErrRange, at))
	}
	return int(n)
}

func (x *places) stamp() api.Stamp {
	at := x.at
	s := hopped(x.n(0, 31), x.n(1, top), x.n(0, 32)-1, x.n(0, top))
	if err := stamp.Check(s); err != api.OK {
		panic(fault(err, at))
	}
	return s
}

func (x *places) class(ahead []api.Class) api.Class {
	at := x.at
	s := x.stamp()
	c := class(s, x.u(), x.u())
	switch n := len(ahead); {
	case n > 0 && byNumbers(part(0, ahead[n-1].Stamp, 0), part(0, s, 0)) >= 0:
		panic(fault(api.ErrOrder, at))
	case share.Check(c.Pool) != api.OK:
		panic(fault(share.Check(c.Pool), at))
	case c.Pool == (api.Pool{}):
		panic(fault(api.ErrState, at))
	}
	return c
}

func (x *places) position(ahead []api.Position) api.Position {
	at := x.at
	p := part(x.n(0, 63), x.stamp(), 0)
	p.Shares = x.u()
	if n := len(ahead); n > 0 && byNumbers(ahead[n-1], p) >= 0 {
		panic(fault(api.ErrOrder, at))
	}
	return p
}

// readAs tells what the chapter's words say of bytes.
func readAs(b []byte) (h api.Holding, is api.Fault) {
	defer func() {
		if found := recover(); found != nil {
			h, is = api.Holding{}, found.(api.Fault)
		}
	}()
	x := &places{b: b}
	for range x.n(0, 1024) {
		h.Classes = append(h.Classes, x.class(h.Classes))
	}
	for range x.n(0, 65536) {
		h.Positions = append(h.Positions, x.position(h.Positions))
	}
	if x.at < len(b) {
		panic(fault(api.ErrLong, x.at))
	}
	if err := checked(h); err != api.OK {
		panic(fault(err, 0))
	}
	return h, api.Fault{}
}

// muddled changes some bytes.
func muddled(r *rand.Rand, b []byte) []byte {
	b = slices.Clone(b)
	for range 1 + r.IntN(3) {
		i := r.IntN(len(b))
		switch r.IntN(6) {
		case 0:
			b[i] = byte(r.IntN(256))
		case 1:
			b[i] ^= 1 << r.IntN(8)
		case 2:
			b[i] += byte(r.IntN(3)) - 1
		case 3:
			b = slices.Insert(b, i, byte(r.IntN(256)>>r.IntN(8)))
		case 4:
			b = append(slices.Delete(b, i, i+1), byte(r.IntN(3)))
		case 5:
			j := r.IntN(len(b))
			b[i], b[j] = b[j], b[i]
		}
	}
	return b
}

// TestReadsDrawn: P13.6 and P13.10: changed encodings of drawn holdings, valid or not, and drawn bytes, by the chapter's words: they are refused, or are the encoding of what is read.
func TestReadsDrawn(t *testing.T) {
	r := source(8)
	count := map[api.Errno]int{}
	for i := range 60000 {
		h := drawn(r)
		if i%2 == 0 {
			h = small(r)
		}
		b := encoded(h)
		if r.IntN(8) > 0 {
			b = muddled(r, b)
		}
		if r.IntN(8) == 0 {
			b = nil
			for range r.IntN(30) {
				b = append(b, byte(r.IntN(256)>>r.IntN(8)))
			}
		}
		want, fault := readAs(b)
		count[fault.Err]++
		reads(t, b, want, fault)
		if fault.Err == api.OK {
			if again, err := holding.Bytes(want); !slices.Equal(again, b) || err != api.OK {
				t.Fatalf("Bytes of what % x was read as: % x, %v", b, again, err)
			}
		}
	}
	for _, err := range []api.Errno{api.OK, api.ErrArg, api.ErrRange, api.ErrLong, api.ErrForm, api.ErrShort, api.ErrOrder, api.ErrUnknown, api.ErrState, api.ErrDust} {
		if count[err] < 50 {
			t.Errorf("%v: only %d", err, count[err])
		}
	}
}

// small draws a holding of two classes with small numbers, which small changes of its bytes leave valid often.
func small(r *rand.Rand) (h api.Holding) {
	for v := range 2 {
		s := bare(v, 1+r.IntN(3))
		x, y := amount(r, 5), amount(r, 5)
		h.Classes = append(h.Classes, class(s, amount(r, x+y), x+y))
		h.Positions = append(h.Positions, part(0, s, x), part(1, s, y))
	}
	return sorted(h)
}
