package holding_test

import (
	"bytes"
	"encoding/binary"
	"slices"
	"testing"

	"distraint/api"
	"distraint/holding"
)

func number(n uint64) []byte { return binary.AppendUvarint(nil, n) }

func stampItems(s api.Stamp) (l [][]byte) {
	for _, n := range []int{s.Validator, s.Since, s.Prior + 1, s.From} {
		l = append(l, number(uint64(n)))
	}
	return l
}

// items tells the items of a holding's encoding, by the library.
func items(h api.Holding) (l [][]byte) {
	l = append(l, number(uint64(len(h.Classes))))
	for _, c := range h.Classes {
		l = append(append(l, stampItems(c.Stamp)...), number(c.Pool.Tokens), number(c.Pool.Shares))
	}
	l = append(l, number(uint64(len(h.Positions))))
	for _, p := range h.Positions {
		l = append(append(append(l, number(uint64(p.Owner))), stampItems(p.Stamp)...), number(p.Shares))
	}
	return l
}

// Where the items of a class, the number of positions, and the items of a position are among all items.
func classAt(i int) int                     { return 1 + 6*i }
func countAt(h api.Holding) int             { return classAt(len(h.Classes)) }
func positionAt(h api.Holding, i int) int   { return countAt(h) + 1 + 6*i }
func encoded(h api.Holding) []byte          { return slices.Concat(items(h)...) }
func offset(l [][]byte, i int) int          { return len(slices.Concat(l[:i]...)) }
func fault(err api.Errno, at int) api.Fault { return api.Fault{Err: err, At: at} }

// encodes: Bytes tells this of h, in new memory.
func encodes(t *testing.T, h api.Holding, want []byte, err api.Errno) {
	t.Helper()
	mine := roomy(h)
	for range 2 {
		b, is := holding.Bytes(mine)
		if !bytes.Equal(b, want) || is != err {
			t.Errorf("Bytes(%s): %d bytes, %v; want %d, %v", brief(h), len(b), is, len(want), err)
		}
		clear(b[:cap(b)])
	}
	if !same(entire(mine), entire(roomy(h))) {
		t.Errorf("Bytes changed %s, or what is behind it", brief(h))
	}
}

// TestBytes: P13.6, written out: the chapter's holding, and one with long numbers.
func TestBytes(t *testing.T) {
	encodes(t, api.Holding{}, []byte{0, 0}, api.OK)
	encodes(t, begun(), []byte{2, 2, 5, 0, 0, 20, 20, 3, 6, 0, 0, 7, 7, 3, 0, 2, 5, 0, 0, 10, 1, 2, 5, 0, 0, 10, 1, 3, 6, 0, 0, 7}, api.OK)
	s := hopped(31, top, 0, 300)
	encodes(t, of(classes(class(s, 128, m)), part(62, s, m-1), part(63, s, 1)), []byte{
		1, 31, 0x80, 0x80, 0x80, 0x80, 0x10, 1, 0xac, 2, 0x80, 1, 0xff, 0xff, 0xff, 0xff, 0xff, 0xff, 0xff, 0xff, 0xff, 1,
		2, 62, 31, 0x80, 0x80, 0x80, 0x80, 0x10, 1, 0xac, 2, 0xfe, 0xff, 0xff, 0xff, 0xff, 0xff, 0xff, 0xff, 0xff, 1,
		63, 31, 0x80, 0x80, 0x80, 0x80, 0x10, 1, 0xac, 2, 1}, api.OK)
	for _, h := range valids() {
		encodes(t, h, encoded(h), api.OK)
	}
	f := full(short, one)
	encodes(t, f, encoded(f), api.OK)
}

// TestBytesOfWrong: P13.6: the error of Check, and no bytes; with 65,536 positions and one more a holding is not valid.
func TestBytesOfWrong(t *testing.T) {
	encodes(t, of(make([]api.Class, 1025)), nil, api.ErrLong)
	encodes(t, of(classes(class(bare(2, 5), 20, 20))), nil, api.ErrState)
	encodes(t, of(nil, part(0, bare(2, 5), 1)), nil, api.ErrUnknown)
	encodes(t, of(nil, make([]api.Position, 65537)...), nil, api.ErrDust)
	f := full(short, one)
	last := f.Positions[65535]
	for _, x := range []struct {
		p   api.Position
		err api.Errno
	}{{last, api.ErrOrder}, {part(63, bare(31, 900), 1), api.ErrUnknown}, {part(64, last.Stamp, 1), api.ErrRange}, {part(63, bare(31, 900), 0), api.ErrDust}} {
		encodes(t, with(f, func(h *api.Holding) { h.Positions = append(h.Positions, x.p) }), nil, x.err)
	}
	r := source(6)
	for range 3000 {
		h := spoilt(r, drawn(r))
		if err := checked(h); err != api.OK {
			encodes(t, h, nil, err)
		} else {
			encodes(t, h, encoded(h), api.OK)
		}
	}
}

// wordy is a stamp of 12 bytes.
func wordy(i int) api.Stamp { return hopped(i/32, 1<<28+i%32, (i/32+1)%32, 1<<28) }

// long is a valid holding whose encoding has so many bytes. The account 63 has nearly all shares of each class, so that those of the others change how many bytes they have themselves, but not how many the pool has.
func long(t *testing.T, n int) api.Holding {
	t.Helper()
	const others = 63 * 1024
	more := 0 // by so many bytes the others' shares are longer than one byte each
	shares := func(i int) uint64 {
		switch {
		case i >= others:
			return 1 << 50
		case i < more%others:
			return 1 << (7 * (more/others + 1))
		}
		return 1 << (7 * (more / others))
	}
	more = n - len(encoded(full(wordy, shares)))
	h := full(wordy, shares)
	if b := encoded(h); len(b) != n {
		t.Fatalf("%d bytes; want %d", len(b), n)
	}
	return h
}

// TestBytesLongest: P13.6: an encoding of 2^20 bytes, and of more. One that is too long to be told is read all the same.
func TestBytesLongest(t *testing.T) {
	for _, n := range []int{1 << 20, 1<<20 - 1, 1<<20 + 1, 1<<20 + 2, 1<<20 + 1000, 1_100_000} {
		h := long(t, n)
		checks(t, h, api.OK)
		if n > 1<<20 {
			encodes(t, h, nil, api.ErrLong)
		} else {
			encodes(t, h, encoded(h), api.OK)
		}
		reads(t, encoded(h), h, api.Fault{})
	}
	encodes(t, full(wordy, func(i int) uint64 { return 1 << 57 }), nil, api.ErrLong)
}

// reads: bytes are read as h, or refused with a fault; they stay as they are, and h has no memory of them.
func reads(t *testing.T, b []byte, h api.Holding, want api.Fault) {
	t.Helper()
	room := append(slices.Clone(b), 1, 0, 0, 0, 0, 0, 0)
	is, fault := holding.Read(room[:len(b)])
	if fault != want || !same(is, h) {
		t.Errorf("Read(% .200x): %s, %v; want %s, %v", b, brief(is), fault, brief(h), want)
	}
	if !bytes.Equal(room, append(slices.Clone(b), 1, 0, 0, 0, 0, 0, 0)) {
		t.Errorf("Read changed % .200x", b)
	}
	clear(room)
	if !same(is, h) {
		t.Errorf("what Read told of % .200x changes with the bytes", b)
	}
}

func refuses(t *testing.T, b []byte, err api.Errno, at int) {
	t.Helper()
	reads(t, b, api.Holding{}, fault(err, at))
}

// refusesAt: bytes in which the item i is another one are refused at the item at, whatever follows: the rest, nothing, or more wrong bytes.
func refusesAt(t *testing.T, l [][]byte, i int, item []byte, err api.Errno, at int) {
	t.Helper()
	head := slices.Concat(slices.Concat(l[:i]...), item)
	for _, rest := range [][]byte{slices.Concat(l[i+1:]...), nil, {0xff, 0x80, 0}, {0x80, 0}} {
		refuses(t, slices.Concat(head, rest), err, offset(l, at))
	}
}

// TestReadsBack: P13.6 and P13.10: a holding is read from its encoding, and encoded as the same bytes again.
func TestReadsBack(t *testing.T) {
	for _, h := range append(valids(), full(short, one)) {
		b, err := holding.Bytes(h)
		if err != api.OK || !bytes.Equal(b, encoded(h)) {
			t.Errorf("Bytes(%s): %v", brief(h), err)
		}
		reads(t, b, h, api.Fault{})
	}
	r := source(7)
	for range 5000 {
		h := drawn(r)
		b, _ := holding.Bytes(h)
		reads(t, b, h, api.Fault{})
		is, _ := holding.Read(b)
		encodes(t, is, b, api.OK)
	}
}

// TestReadsCutOff: P13.6: bytes that end at any place, within an item or behind it.
func TestReadsCutOff(t *testing.T) {
	for _, h := range []api.Holding{{}, begun(), rich(), histories(), crowd(1 << 57)} {
		l, b := items(h), encoded(h)
		begun := 0
		for n := range len(b) {
			for offset(l, begun+1) <= n {
				begun++
			}
			refuses(t, b[:n], api.ErrShort, offset(l, begun))
		}
	}
}

// TestReadsTooMuch: P13.6: bytes that are left, also behind a holding that is not valid: they are told first.
func TestReadsTooMuch(t *testing.T) {
	s := bare(2, 5)
	for _, h := range []api.Holding{{}, begun(), rich(), of(classes(class(s, 20, 20))), of(nil, part(0, s, 1)), of(nil, part(0, s, 0)), of(classes(class(s, most, most), class(bare(3, 6), 1, 1)))} {
		b := encoded(h)
		for _, more := range [][]byte{{0}, {1}, {0x80}, {0xff, 0xff}, b} {
			refuses(t, slices.Concat(b, more), api.ErrLong, len(b))
		}
	}
}

// ill are bytes that are no number.
func ill() [][]byte {
	return [][]byte{{0x80, 0}, {0x85, 0x80, 0}, append(bytes.Repeat([]byte{0xff}, 9), 2), bytes.Repeat([]byte{0xff}, 10)}
}

// TestReadsIll: P13.6: each item, not in its shortest form, or with too many bits.
func TestReadsIll(t *testing.T) {
	for _, h := range []api.Holding{{}, begun(), rich(), histories()} {
		l := items(h)
		for i := range l {
			for _, item := range ill() {
				refusesAt(t, l, i, item, api.ErrForm, i)
			}
		}
	}
}

// TestReadsCounts: P13.6: how many classes and positions there are, at their bounds and beyond.
func TestReadsCounts(t *testing.T) {
	for _, n := range []uint64{1025, 1026, 2048, 65536, 1 << 32, 1<<63 - 1, 1 << 63, m} {
		refusesAt(t, items(begun()), 0, number(n), api.ErrRange, 0)
	}
	for _, n := range []uint64{65537, 65538, 131072, 1 << 32, 1<<63 - 1, 1 << 63, m} {
		for _, h := range []api.Holding{{}, begun()} {
			refusesAt(t, items(h), countAt(h), number(n), api.ErrRange, countAt(h))
		}
	}
	refuses(t, number(1024), api.ErrShort, 2)
	refuses(t, slices.Concat([]byte{0}, number(65536)), api.ErrShort, 4)
	refuses(t, nil, api.ErrShort, 0)
	wideMore := wide(1024)
	wideMore.Classes = append(wideMore.Classes, class(bare(31, 900), 1, 1))
	refuses(t, encoded(wideMore), api.ErrRange, 0)
	f := full(short, one)
	f.Positions = append(f.Positions, f.Positions[65535])
	refuses(t, encoded(f), api.ErrRange, offset(items(f), countAt(f)))
}

// TestReadsStamps: P13.6: the fault of each stamp, in classes and in positions: at a number that is out of bounds, or at the stamp's first byte.
func TestReadsStamps(t *testing.T) {
	for _, h := range []api.Holding{begun(), rich(), histories()} {
		l := items(h)
		var begins []int
		for i := range h.Classes {
			begins = append(begins, classAt(i))
		}
		for i := range h.Positions {
			begins = append(begins, positionAt(h, i)+1)
		}
		for _, at := range begins {
			for i, n := range [][]uint64{{32, 33, 64, m}, {0, top + 1, m}, {33, 34, m}, {top + 1, 1 << 63}} {
				for _, n := range n {
					refusesAt(t, l, at+i, number(n), api.ErrRange, at+i)
				}
			}
			for _, x := range []struct {
				s   api.Stamp
				err api.Errno
			}{{hopped(2, 9, 2, 5), api.ErrArg}, {hopped(2, 9, -1, 5), api.ErrState}, {hopped(2, 9, 1, 0), api.ErrState}, {hopped(2, 9, 1, 10), api.ErrOrder}} {
				refusesAt(t, slices.Concat(l[:at], stampItems(x.s), l[at+4:]), at+3, number(uint64(x.s.From)), x.err, at)
			}
		}
	}
}

// TestReadsOwners: P13.6: each Owner is from 0 to 63.
func TestReadsOwners(t *testing.T) {
	for _, h := range []api.Holding{begun(), rich()} {
		for i := range h.Positions {
			for _, n := range []uint64{64, 65, 128, 1 << 32, 1 << 63, m} {
				refusesAt(t, items(h), positionAt(h, i), number(n), api.ErrRange, positionAt(h, i))
			}
		}
	}
}
