package bank_test

import (
	"bytes"
	"encoding/binary"
	"slices"
	"testing"

	"distraint/api"
	"distraint/bank"
)

func number(n uint64) []byte { return binary.AppendUvarint(nil, n) }

// items tells the items of a bank's encoding, by the library.
func items(b api.Bank) [][]byte {
	l := [][]byte{number(uint64(len(b.Liquid)))}
	for _, n := range slices.Concat(b.Liquid, b.Pools[:]) {
		l = append(l, number(n))
	}
	return l
}

func encoded(b api.Bank) []byte { return slices.Concat(items(b)...) }

// offset tells where the item i begins.
func offset(l [][]byte, i int) int { return len(slices.Concat(l[:i]...)) }

// refuses: bytes are not read, for this reason, whatever is behind them in memory.
func refuses(t *testing.T, b []byte, err api.Errno, at int) {
	t.Helper()
	want := api.Fault{Err: err, At: at}
	room := append(slices.Clone(b), 1, 0, 0, 0, 0, 0, 0)
	is, fault := bank.Read(room[:len(b)])
	if !same(is, api.Bank{}) || fault != want {
		t.Errorf("Read(% x): %v, %v; want %v", b, is, fault, want)
	}
	if !bytes.Equal(room, append(slices.Clone(b), 1, 0, 0, 0, 0, 0, 0)) {
		t.Errorf("Read changed % x", b)
	}
}

// refusesAt: the item i is refused where it begins, whatever follows it: the rest, nothing, or more wrong bytes.
func refusesAt(t *testing.T, l [][]byte, i int, item []byte, err api.Errno) {
	t.Helper()
	at := offset(l, i)
	head := slices.Concat(slices.Concat(l[:i]...), item)
	refuses(t, slices.Concat(head, slices.Concat(l[i+1:]...)), err, at)
	refuses(t, head, err, at)
	refuses(t, slices.Concat(head, []byte{0xff, 0x80, 0}), err, at)
}

// TestEncodes: P9.3: valid banks, in memory that is new.
func TestEncodes(t *testing.T) {
	for _, b := range valids() {
		before := copied(b)
		for range 2 {
			raw, err := bank.Bytes(b)
			if !bytes.Equal(raw, encoded(before)) || err != api.OK {
				t.Errorf("Bytes(%v): % x, %v; want % x", b, raw, err, encoded(before))
			}
			clear(raw[:cap(raw)])
			untouched(t, "Bytes", b, before)
		}
	}
}

// TestEncodesLongest: P9.3: the bank whose encoding is the longest: as many numbers of nine bytes as the supply allows, and eight bytes for each other one.
func TestEncodesLongest(t *testing.T) {
	b := of(with(row(64, 1<<56), 63, 1<<55), 1<<53, 1<<53, 1<<53, 1<<53)
	raw, err := bank.Bytes(b)
	if len(raw) != 1+63*9+5*8 || err != api.OK || !bytes.Equal(raw, encoded(b)) {
		t.Errorf("Bytes: %d bytes, %v", len(raw), err)
	}
	if is, fault := bank.Read(raw); !same(is, b) || fault != (api.Fault{}) {
		t.Errorf("Read: %v, %v", is, fault)
	}
}

// TestEncodesWrong: P9.3: a bank that is not valid has no bytes.
func TestEncodesWrong(t *testing.T) {
	for want, l := range wrongs() {
		for _, b := range l {
			before := copied(b)
			if raw, err := bank.Bytes(b); len(raw) != 0 || err != want {
				t.Errorf("Bytes(%v): % x, %v; want %v", b, raw, err, want)
			}
			untouched(t, "Bytes", b, before)
		}
	}
}

// TestReadsBack: P9.3 and P9.6: what is read is the bank, in memory of its own, and is encoded as the same bytes.
func TestReadsBack(t *testing.T) {
	for _, b := range valids() {
		raw := encoded(b)
		kept := bytes.Clone(raw)
		is, fault := bank.Read(raw)
		if !same(is, b) || fault != (api.Fault{}) {
			t.Fatalf("Read(% x): %v, %v; want %v", raw, is, fault, b)
		}
		if !bytes.Equal(raw, kept) {
			t.Errorf("Read changed % x: % x", kept, raw)
		}
		clear(raw)
		again, err := bank.Bytes(is)
		if !same(is, b) || !bytes.Equal(again, kept) || err != api.OK {
			t.Errorf("Bytes of what was read as %v: % x, %v; want % x", is, again, err, kept)
		}
	}
}

// few has numbers of all lengths that matter, in its balances and in its pools.
func few() api.Bank {
	return of([]uint64{0, 127, 128, 1<<61 - 1, 300}, 16383, 1<<60-1, 0, 1<<56-1)
}

// TestReadsCutOff: P9.3: bytes that end at any place, within an item or behind it.
func TestReadsCutOff(t *testing.T) {
	for _, b := range append(valids(), few()) {
		l, raw := items(b), encoded(b)
		for n := range len(raw) {
			begun := 0
			for offset(l, begun+1) <= n {
				begun++
			}
			refuses(t, raw[:n], api.ErrShort, offset(l, begun))
		}
	}
}

// TestReadsTooMuch: P9.3: bytes that are left, of a bank whose supply is too great as well: they are told first.
func TestReadsTooMuch(t *testing.T) {
	for _, b := range append(valids(), few(), of([]uint64{most}, 1), of([]uint64{m}, m, m, m, m)) {
		raw := encoded(b)
		for _, more := range [][]byte{{0}, {1}, {0x80}, {0xff, 0xff}, raw} {
			refuses(t, slices.Concat(raw, more), api.ErrLong, len(raw))
		}
	}
}

// TestReadsWrongCount: P9.3: how many accounts there are is from 1 to 64.
func TestReadsWrongCount(t *testing.T) {
	l := items(few())
	for _, n := range []uint64{0, 65, 66, 127, 128, 1 << 31, 1<<32 + 5, 1<<63 - 1, 1 << 63, 1<<63 + 5, m} {
		refusesAt(t, l, 0, number(n), api.ErrRange)
	}
	for _, n := range []int{0, 65, 66, 200} {
		refuses(t, encoded(of(row(n, 0))), api.ErrRange, 0)
		refuses(t, encoded(of(row(n, 1), 1, 1, 1, 1)), api.ErrRange, 0)
		refuses(t, encoded(of(row(n, m), 1, 1, 1, 1)), api.ErrRange, 0)
	}
	refusesAt(t, l, 0, []byte{0x85, 0}, api.ErrForm)
	refusesAt(t, l, 0, []byte{0x85, 0x80, 0}, api.ErrForm)
	refusesAt(t, l, 0, []byte{0x80, 0}, api.ErrForm)
	refusesAt(t, l, 0, append(bytes.Repeat([]byte{0xff}, 9), 2), api.ErrForm)
	refuses(t, nil, api.ErrShort, 0)
	refuses(t, []byte{0x80}, api.ErrShort, 0)
	// A count that does not fit the numbers behind it.
	raw := encoded(few())
	refuses(t, append([]byte{4}, raw[1:]...), api.ErrLong, offset(l, 9))
	refuses(t, append([]byte{1}, raw[1:]...), api.ErrLong, offset(l, 6))
	refuses(t, append([]byte{6}, raw[1:]...), api.ErrShort, len(raw))
	refuses(t, append([]byte{64}, raw[1:]...), api.ErrShort, len(raw))
}

// TestReadsWrongNumbers: P9.3: each balance and each pool, not in its shortest form, with too many bits, or cut off; of a bank whose supply would be too great as well.
func TestReadsWrongNumbers(t *testing.T) {
	for _, b := range []api.Bank{few(), of([]uint64{m, m}, m, m, m, m), of(row(64, 5), 1, 2, 3, 4)} {
		l := items(b)
		for i := 1; i < len(l); i++ {
			longer := bytes.Clone(l[i])
			longer[len(longer)-1] |= 0x80
			if len(longer) < 10 {
				refusesAt(t, l, i, append(longer, 0), api.ErrForm)
			}
			refusesAt(t, l, i, []byte{0x80, 0}, api.ErrForm)
			refusesAt(t, l, i, append(bytes.Repeat([]byte{0xff}, 9), 2), api.ErrForm)
			refusesAt(t, l, i, bytes.Repeat([]byte{0xff}, 10), api.ErrForm)
			refuses(t, slices.Concat(slices.Concat(l[:i]...), bytes.Repeat([]byte{0xff}, 9)), api.ErrShort, offset(l, i))
		}
	}
}

// TestReadsFirstFault: P9.3: of several faults the first one is told.
func TestReadsFirstFault(t *testing.T) {
	refuses(t, []byte{2, 5, 0x80, 0, 0x80, 0, 1}, api.ErrForm, 2)
	refuses(t, []byte{0, 0x80, 0}, api.ErrRange, 0)
	refuses(t, []byte{65, 0x80, 0}, api.ErrRange, 0)
	refuses(t, []byte{1, 5, 0, 0, 0x80, 0}, api.ErrForm, 4)
	refuses(t, []byte{1, 5, 0, 0, 0, 0x80, 0}, api.ErrForm, 5)
	refuses(t, []byte{1, 5, 0, 0, 0, 0x80}, api.ErrShort, 5)
	refuses(t, []byte{1, 5, 0, 0, 0, 0, 0x80, 0}, api.ErrLong, 6)
}

// TestReadsOver: P9.3: a supply that is too great is told where the bytes begin, when all else is well.
func TestReadsOver(t *testing.T) {
	for _, b := range wrongs()[api.ErrOver] {
		refuses(t, encoded(b), api.ErrOver, 0)
	}
}

// readsAsEncoded: P9.6: bytes are refused, or they are the encoding of the bank that they are read as.
func readsAsEncoded(t *testing.T, raw []byte) (read bool) {
	t.Helper()
	b, fault := bank.Read(raw)
	if fault != (api.Fault{}) {
		if !same(b, api.Bank{}) || fault.Err == api.OK || fault.At < 0 || fault.At > len(raw) {
			t.Errorf("Read(% x): %v, %v", raw, b, fault)
		}
		return false
	}
	if again, err := bank.Bytes(b); !bytes.Equal(again, raw) || err != api.OK {
		t.Errorf("% x is read as %v, whose bytes are % x, %v", raw, b, again, err)
	}
	return true
}

// TestReadsOneEncoding: P9.6, of bytes that differ from an encoding in one place.
func TestReadsOneEncoding(t *testing.T) {
	read, refused := 0, 0
	for _, b := range []api.Bank{few(), of([]uint64{70, 50}, 30), of(row(64, most/64)), of([]uint64{most - 300}, 0, 0, 300)} {
		raw := encoded(b)
		for i := range raw {
			for x := range 256 {
				other := bytes.Clone(raw)
				other[i] = byte(x)
				if readsAsEncoded(t, other) {
					read++
				} else {
					refused++
				}
			}
		}
	}
	if read == 0 || refused == 0 {
		t.Errorf("%d are read, %d refused", read, refused)
	}
}

// TestEncodeExamples: the chapter's table, its last row.
func TestEncodeExamples(t *testing.T) {
	if raw, err := bank.Bytes(begun(t)); !bytes.Equal(raw, []byte{2, 70, 50, 30, 0, 0, 0}) || err != api.OK {
		t.Errorf("Bytes: % x, %v", raw, err)
	}
	if b, fault := bank.Read([]byte{2, 70, 50, 30, 0, 0, 0}); !same(b, begun(t)) || fault != (api.Fault{}) {
		t.Errorf("Read: %v, %v", b, fault)
	}
	refuses(t, []byte{1, 0, 0, 0, 0}, api.ErrShort, 5)
	refuses(t, []byte{0}, api.ErrRange, 0)
	refuses(t, []byte{1, 0}, api.ErrShort, 2)
}

func FuzzRead(f *testing.F) {
	f.Add([]byte{})
	f.Add([]byte{2, 70, 50, 30, 0, 0, 0})
	f.Add(encoded(few()))
	f.Fuzz(func(t *testing.T, b []byte) { readsAsEncoded(t, b) })
}
