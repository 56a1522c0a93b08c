package seal_test

import (
	"bytes"
	"encoding/binary"
	"math"
	"slices"
	"testing"

	"distraint/api"
	"distraint/seal"
)

func number(n uint64) []byte { return binary.AppendUvarint(nil, n) }

// items tells the items of a table's encoding, by the library: the number of seals, and three of each.
func items(l []api.Seal) [][]byte {
	all := [][]byte{number(uint64(len(l)))}
	for _, x := range l {
		all = append(all, number(uint64(x.Validator)), x.Digest[:], number(x.Tag))
	}
	return all
}

func encoded(l []api.Seal) []byte { return slices.Concat(items(l)...) }

// offset tells where the item i begins.
func offset(l [][]byte, i int) int { return len(slices.Concat(l[:i]...)) }

// refuses: bytes are not read, for this reason.
func refuses(t *testing.T, b []byte, err api.Errno, at int) {
	t.Helper()
	want := api.Fault{Err: err, At: at}
	before := bytes.Clone(b)
	if l, fault := seal.Read(b); len(l) != 0 || fault != want {
		t.Errorf("Read of %d bytes: %d seals, %v; want %v", len(b), len(l), fault, want)
	}
	if !bytes.Equal(b, before) {
		t.Errorf("Read changed its %d bytes", len(b))
	}
}

// refusesAt: the item i is refused where it begins, whatever follows it: the rest, nothing, or more wrong bytes.
func refusesAt(t *testing.T, l [][]byte, i int, item []byte, err api.Errno) {
	t.Helper()
	at := offset(l, i)
	head := slices.Concat(slices.Concat(l[:i]...), item)
	refuses(t, slices.Concat(head, slices.Concat(l[i+1:]...)), err, at)
	refuses(t, head, err, at)
	refuses(t, slices.Concat(head, []byte{0xff, 0x80, 0}), err, at)
}

// tables are some to encode: none, one seal at each edge, many, and as many as there may be.
func tables() [][]api.Seal {
	l := [][]api.Seal{nil, {}, all(validators()), all(upTo(32))}
	for _, x := range all(validators()) {
		l = append(l, list(x))
	}
	for _, n := range []int{2, 3, 127, 128, 129, 4095, 4096} {
		l = append(l, row(n))
	}
	return l
}

// TestEncodes: P5.3.
func TestEncodes(t *testing.T) {
	for _, l := range tables() {
		mine := roomy(l)
		b, err := seal.Bytes(mine)
		if !bytes.Equal(b, encoded(l)) || err != api.OK {
			t.Errorf("Bytes of %d seals: %d bytes, %v", len(l), len(b), err)
		}
		clear(b[:cap(b)])
		untouched(t, "Bytes", mine, l, nil)
		if again, err := seal.Bytes(mine); !bytes.Equal(again, encoded(l)) || err != api.OK {
			t.Errorf("Bytes of %d seals: %d bytes, %v, after others were overwritten", len(l), len(again), err)
		}
	}
}

// TestEncodesLongest: P5.3: the table whose encoding is the longest.
func TestEncodesLongest(t *testing.T) {
	l := row(api.MaxSeals)
	for i := range l {
		l[i].Tag = math.MaxUint64 - uint64(1-i%2)
	}
	b, err := seal.Bytes(l)
	if len(b) != 2+4096*43 || err != api.OK || !bytes.Equal(b, encoded(l)) {
		t.Errorf("Bytes: %d bytes, %v", len(b), err)
	}
	is, fault := seal.Read(b)
	if !slices.Equal(is, l) || fault != (api.Fault{}) {
		t.Errorf("Read: %d seals, %v", len(is), fault)
	}
}

// TestEncodesNoTable: P5.3: the error of Check.
func TestEncodesNoTable(t *testing.T) {
	for want, lists := range wrongs() {
		for _, l := range lists {
			if b, err := seal.Bytes(l); len(b) != 0 || err != want {
				t.Errorf("Bytes of %d seals: %d bytes, %v; want %v", len(l), len(b), err, want)
			}
		}
	}
}

// TestReadsBack: P5.3 and P5.5: what is read is the table, and is encoded as the same bytes.
func TestReadsBack(t *testing.T) {
	for _, l := range tables() {
		b := encoded(l)
		is, fault := seal.Read(b)
		if !slices.Equal(is, l) || fault != (api.Fault{}) {
			t.Fatalf("Read of %d seals: %d, %v", len(l), len(is), fault)
		}
		if again, err := seal.Bytes(is); !bytes.Equal(again, b) || err != api.OK {
			t.Errorf("Bytes of %d seals that were read: %d bytes, %v; want %d", len(l), len(again), err, len(b))
		}
		clear(b)
		if !slices.Equal(is, l) {
			t.Errorf("%d seals that were read changed as their bytes did", len(l))
		}
	}
}

// few is a table with seals whose tags have all lengths that matter.
func few() []api.Seal {
	return list(vdt(0, 0, 0), vdt(0, 0, 127), vdt(0, 1, 128), vdt(30, 0xff, 1<<63-1), vdt(31, 0, math.MaxUint64))
}

// TestReadsCutOff: P5.3: bytes that end at any place, within an item or behind it.
func TestReadsCutOff(t *testing.T) {
	l := items(few())
	b := encoded(few())
	for n := range len(b) {
		begun := 0
		for begun < len(l) && offset(l, begun+1) <= n {
			begun++
		}
		refuses(t, b[:n], api.ErrShort, offset(l, begun))
	}
}

// TestReadsTooMuch: P5.3: bytes that are left, of tables of all sizes.
func TestReadsTooMuch(t *testing.T) {
	for _, l := range tables() {
		b := encoded(l)
		for _, more := range [][]byte{{0}, {1}, {0x80}, {0xff, 0xff}, b} {
			refuses(t, slices.Concat(b, more), api.ErrLong, len(b))
		}
	}
}

// TestReadsWrongCount: P5.3: how many seals there are may be at most 4,096.
func TestReadsWrongCount(t *testing.T) {
	l := items(few())
	for _, n := range []uint64{4097, 4098, 1 << 14, 1 << 31, 1<<32 + 5, 1<<63 - 1, 1 << 63, math.MaxUint64} {
		refusesAt(t, l, 0, number(n), api.ErrRange)
	}
	refuses(t, encoded(row(4097)), api.ErrRange, 0)
	refusesAt(t, l, 0, []byte{0x85, 0}, api.ErrForm)
	refusesAt(t, l, 0, []byte{0x85, 0x80, 0}, api.ErrForm)
	refuses(t, []byte{0x80, 0}, api.ErrForm, 0)
	refuses(t, nil, api.ErrShort, 0)
	refuses(t, []byte{0x80}, api.ErrShort, 0)
	// A count that does not fit the seals behind it.
	b := encoded(few())
	refuses(t, append([]byte{4}, b[1:]...), api.ErrLong, offset(l, 13))
	refuses(t, append([]byte{0}, b[1:]...), api.ErrLong, 1)
	refuses(t, append([]byte{6}, b[1:]...), api.ErrShort, len(b))
	refuses(t, append([]byte{0x80, 0x20}, b[1:]...), api.ErrShort, len(b)+1)
}

// TestReadsWrongItems: P5.3, of each seal of a table, the first, the last and those between.
func TestReadsWrongItems(t *testing.T) {
	l := items(few())
	for i := 1; i < len(l); i += 3 {
		for _, n := range []uint64{32, 33, 127, 128, 1 << 32, 1<<63 - 1, 1 << 63, math.MaxUint64} {
			refusesAt(t, l, i, number(n), api.ErrRange)
		}
	}
	for i := 1; i < len(l); i++ {
		if i%3 == 2 {
			continue
		}
		longer := bytes.Clone(l[i])
		longer[len(longer)-1] |= 0x80
		if len(longer) < 10 {
			refusesAt(t, l, i, append(longer, 0), api.ErrForm)
		}
		refusesAt(t, l, i, []byte{0x80, 0}, api.ErrForm)
		refusesAt(t, l, i, append(bytes.Repeat([]byte{0xff}, 9), 2), api.ErrForm)
		refuses(t, slices.Concat(slices.Concat(l[:i]...), bytes.Repeat([]byte{0xff}, 9)), api.ErrShort, offset(l, i))
	}
}

// TestReadsWrongOrder: P5.3: a seal that is not greater than the one before it, at its first byte, whatever follows it.
func TestReadsWrongOrder(t *testing.T) {
	for i := 1; i < len(few()); i++ {
		for _, x := range []api.Seal{few()[i-1], few()[0], {}} {
			l := few()
			l[i] = x
			all := items(l)
			at := offset(all, 1+3*i)
			head := slices.Concat(all[:4+3*i]...)
			refuses(t, slices.Concat(all...), api.ErrOrder, at)
			refuses(t, head, api.ErrOrder, at)
			refuses(t, slices.Concat(head, []byte{32, 0x80, 0}), api.ErrOrder, at)
			// Its own items come first: it is only compared when it is whole.
			refuses(t, head[:len(head)-1], api.ErrShort, offset(all, 3+3*i))
		}
	}
}

// TestReadsAnyPair: P5.3: two seals are read exactly if the first is less, where they differ in one field alone too.
func TestReadsAnyPair(t *testing.T) {
	l := all([]int{0, 1, 31})
	for i, a := range l {
		for j, b := range l {
			two := encoded(list(a, b))
			if i >= j {
				refuses(t, two, api.ErrOrder, len(encoded(list(a))))
				continue
			}
			if is, fault := seal.Read(two); !slices.Equal(is, list(a, b)) || fault != (api.Fault{}) {
				t.Fatalf("Read of %v, %v: %v, %v", a, b, is, fault)
			}
		}
	}
}

// TestReadsFirstFault: P5.3: of several faults the first one is told.
func TestReadsFirstFault(t *testing.T) {
	a := encoded(list(vdt(3, 0, 0)))[1:]
	wrong := append([]byte{32}, a[1:]...)
	refuses(t, slices.Concat([]byte{3}, a, a, wrong), api.ErrOrder, 35)
	refuses(t, slices.Concat([]byte{3}, a, wrong, a), api.ErrRange, 35)
	refuses(t, slices.Concat([]byte{3}, wrong, a, a), api.ErrRange, 1)
	refuses(t, slices.Concat([]byte{2}, a, a, a), api.ErrOrder, 35)
	refuses(t, slices.Concat([]byte{1}, a, a), api.ErrLong, 35)
	// A seal that is neither read whole nor in order: it is not compared.
	refuses(t, slices.Concat([]byte{2}, a, []byte{2}), api.ErrShort, 36)
	refuses(t, slices.Concat([]byte{2}, a, []byte{2}, make([]byte, 32), []byte{0x80, 0}), api.ErrForm, 68)
}

// readsAsEncoded: P5.5: bytes are refused, or they are the encoding of the table that they are read as.
func readsAsEncoded(t *testing.T, b []byte) (read bool) {
	t.Helper()
	l, fault := seal.Read(b)
	if fault != (api.Fault{}) {
		if len(l) != 0 || fault.Err == api.OK || fault.At < 0 || fault.At > len(b) {
			t.Errorf("Read of % x: %d seals, %v", b, len(l), fault)
		}
		return false
	}
	if again, err := seal.Bytes(l); !bytes.Equal(again, b) || err != api.OK {
		t.Errorf("% x is read as %v, whose bytes are % x, %v", b, l, again, err)
	}
	return true
}

// TestReadsOneEncoding: P5.5, of bytes that differ from an encoding in one place.
func TestReadsOneEncoding(t *testing.T) {
	b := encoded(few())
	read, refused := 0, 0
	for i := range b {
		for x := range 256 {
			other := bytes.Clone(b)
			other[i] = byte(x)
			if readsAsEncoded(t, other) {
				read++
			} else {
				refused++
			}
		}
	}
	if read == 0 || refused == 0 {
		t.Errorf("%d are read, %d refused", read, refused)
	}
}

func FuzzRead(f *testing.F) {
	f.Add([]byte{})
	f.Add(encoded(few()))
	f.Add(encoded(row(20)))
	f.Fuzz(func(t *testing.T, b []byte) { readsAsEncoded(t, b) })
}
