package message_test

import (
	"bytes"
	"math"
	"math/rand/v2"
	"slices"
	"testing"

	"distraint/api"
	"distraint/message"
)

// full tells n bytes that are not zero.
func full(n int) []byte {
	b := make([]byte, n)
	for i := range b {
		b[i] = byte(i%251) + 1
	}
	return b
}

// many tells n elements of a size.
func many(n, size int) [][]byte {
	l := make([][]byte, n)
	for i := range l {
		l[i] = full(size)
	}
	return l
}

// pieces tells the items of a script's encoding, by the library: the number of its elements, and each of them.
func pieces(l [][]byte) [][]byte {
	all := [][]byte{number(uint64(len(l)))}
	for _, b := range l {
		all = append(all, slices.Concat(number(uint64(len(b))), b))
	}
	return all
}

func packed(l [][]byte) []byte { return slices.Concat(pieces(l)...) }

// largest is a script whose encoding has 2^20 bytes: each of its 256 elements has two bytes of length, and so has their number.
func largest() [][]byte {
	l := many(256, 4094)
	l[7] = full(4092)
	return l
}

// scripts are some with all numbers and sizes of elements that matter; elements need not be messages.
func scripts() [][][]byte {
	l := [][][]byte{nil, {}, {nil}, {{}}, {nil, nil, {0}}, {{10, 2}, nil}, {full(4096)}, {nil, full(4096), full(127), full(128), nil, full(4095)}, largest()}
	for _, n := range []int{1, 2, 127, 128, 999, 1000} {
		l = append(l, make([][]byte, n), many(n, 1), many(n, 700))
	}
	mixed := make([][]byte, 0, 400)
	r := rand.New(rand.NewPCG(6, 3))
	for range 400 {
		mixed = append(mixed, full(r.IntN(4097)>>r.IntN(12)))
	}
	return append(l, mixed)
}

func equal(a, b [][]byte) bool { return slices.EqualFunc(a, b, bytes.Equal) }

// refusedScript: a script is not encoded, as it is too long.
func refusedScript(t *testing.T, l [][]byte) {
	t.Helper()
	if b, err := message.Pack(l); len(b) != 0 || err != api.ErrLong {
		t.Errorf("Pack of %d elements: %d bytes, %v", len(l), len(b), err)
	}
}

// unreadScript: bytes are not read as a script, for this reason.
func unreadScript(t *testing.T, b []byte, err api.Errno, at int) {
	t.Helper()
	before, want := bytes.Clone(b), api.Fault{Err: err, At: at}
	if l, fault := message.Unpack(b); len(l) != 0 || fault != want {
		t.Errorf("Unpack of %d bytes: %d elements, %v; want %v", len(b), len(l), fault, want)
	}
	if !bytes.Equal(b, before) {
		t.Errorf("Unpack changed its %d bytes", len(b))
	}
}

// roomy is a copy of a script whose elements, and which itself, have spare capacity that is not zero.
func roomy(l [][]byte) [][]byte {
	space := make([][]byte, 0, len(l)+2)
	for _, b := range l {
		space = append(space, append(slices.Clone(b), 0xee, 0xee)[:len(b)])
	}
	return append(space, []byte{7}, []byte{8})[:len(l)]
}

// TestPacks: P6.3, in memory that is new; the script stays as it is.
func TestPacks(t *testing.T) {
	for _, l := range scripts() {
		mine, want := roomy(l), packed(l)
		b, err := message.Pack(mine)
		if !bytes.Equal(b, want) || err != api.OK {
			t.Errorf("Pack of %d elements: %d bytes, %v; want %d", len(l), len(b), err, len(want))
		}
		clear(b[:cap(b)])
		for i, b := range mine {
			if !bytes.Equal(b[:len(b)+2], append(bytes.Clone(l[i]), 0xee, 0xee)) {
				t.Errorf("Pack changed the element %d of %d, or what is behind it", i, len(l))
			}
		}
		if behind := mine[:len(l)+2]; !equal(behind[len(l):], [][]byte{{7}, {8}}) {
			t.Errorf("Pack changed what is behind %d elements", len(l))
		}
	}
}

// TestPacksTooMuch: P6.3: too many elements, one that is too long, be it the first, the last or one between, or too many bytes.
func TestPacksTooMuch(t *testing.T) {
	for _, n := range []int{1001, 1002, 5000} {
		refusedScript(t, make([][]byte, n))
		refusedScript(t, many(n, 2))
	}
	for _, size := range []int{4097, 4098, 1 << 16, 1 << 20, 1<<20 + 1} {
		for at := range 3 {
			l := many(3, 5)
			l[at] = full(size)
			refusedScript(t, l)
		}
		refusedScript(t, many(1, size))
	}
	if n := len(packed(largest())); n != 1<<20 {
		t.Fatal("the largest script has", n, "bytes")
	}
	for _, at := range []int{0, 7, 255} {
		l := largest()
		l[at] = full(len(l[at]) + 1)
		refusedScript(t, l)
	}
	refusedScript(t, append(largest(), nil))
	refusedScript(t, many(1000, 4096))
	refusedScript(t, many(256, 4096))
}

// TestUnpacks: P6.3 and P6.4: what is read is the script, and is encoded as the same bytes; no two elements share memory, nor with the bytes.
func TestUnpacks(t *testing.T) {
	for _, l := range scripts() {
		b := packed(l)
		is, fault := message.Unpack(b)
		if !equal(is, l) || fault != (api.Fault{}) {
			t.Fatalf("Unpack of %d bytes: %d elements, %v; want %d", len(b), len(is), fault, len(l))
		}
		if again, err := message.Pack(is); !bytes.Equal(again, b) || err != api.OK {
			t.Errorf("Pack of %d elements that were read: %d bytes, %v; want %d", len(is), len(again), err, len(b))
		}
		for i := range b {
			b[i] = 0xdd
		}
		for i, x := range is {
			if !bytes.Equal(x, l[i]) {
				t.Fatalf("the element %d of %d changed with the bytes or with another element", i, len(l))
			}
			for j := range x[:cap(x)] {
				x[:cap(x)][j] = 0xcc
			}
		}
	}
}

// TestUnpacksCut: P6.3: bytes that end at any place, within an item or behind it.
func TestUnpacksCut(t *testing.T) {
	l := pieces([][]byte{{10, 2}, nil, full(200), {0}})
	b := slices.Concat(l...)
	for i, part := range l {
		for size := range part {
			unreadScript(t, b[:offset(l, i)+size], api.ErrShort, offset(l, i))
		}
	}
	unreadScript(t, nil, api.ErrShort, 0)
	whole := packed(many(1000, 3))
	unreadScript(t, whole[:len(whole)-1], api.ErrShort, 2+4*999)
	unreadScript(t, whole[:2], api.ErrShort, 2)
	unreadScript(t, whole[:1], api.ErrShort, 0)
}

// unreadPiece: the item i is refused where it begins, whatever follows it.
func unreadPiece(t *testing.T, l [][]byte, i int, wrong []byte, err api.Errno) {
	t.Helper()
	at := offset(l, i)
	head := slices.Concat(slices.Concat(l[:i]...), wrong)
	unreadScript(t, slices.Concat(head, slices.Concat(l[i+1:]...)), err, at)
	unreadScript(t, head, err, at)
	unreadScript(t, slices.Concat(head, []byte{0xff, 0x80, 0}), err, at)
}

// TestUnpacksWrong: P6.3: a number of elements, or a length, that is too great, or written longer than it needs.
func TestUnpacksWrong(t *testing.T) {
	l := pieces([][]byte{{10, 2}, nil, full(200), {0}})
	for _, n := range []uint64{1001, 1002, 1 << 14, 1<<32 + 4, 1<<63 - 1, 1 << 63, math.MaxUint64} {
		unreadPiece(t, l, 0, number(n), api.ErrRange)
	}
	unreadScript(t, packed(many(1001, 1)), api.ErrRange, 0)
	for i := range l {
		if i > 0 {
			for _, n := range []uint64{4097, 4098, 1 << 14, 1 << 20, 1<<32 + 2, 1<<63 - 1, 1 << 63, math.MaxUint64} {
				unreadPiece(t, l, i, number(n), api.ErrLong)
			}
		}
		for _, wrong := range [][]byte{{0x80, 0}, {0x81, 0}, {0x82, 0x80, 0}, append(bytes.Repeat([]byte{0xff}, 9), 2), bytes.Repeat([]byte{0x80}, 10)} {
			unreadPiece(t, l, i, wrong, api.ErrForm)
		}
	}
	// An element that is too long is so also if it is there.
	unreadScript(t, packed(many(2, 4097)), api.ErrLong, 1)
	unreadScript(t, packed([][]byte{full(4096), full(4097)}), api.ErrLong, 4099)
}

// TestUnpacksMore: P6.3: bytes that are left, up to 2^20 bytes in all; what has more is refused before all else.
func TestUnpacksMore(t *testing.T) {
	for _, l := range scripts() {
		b := packed(l)
		for _, more := range [][]byte{{0}, {1}, {0x80}, {0xff, 0xff}} {
			err, at := api.ErrLong, len(b)
			if len(b)+len(more) > 1<<20 {
				at = 1 << 20
			}
			unreadScript(t, slices.Concat(b, more), err, at)
		}
	}
	unreadScript(t, make([]byte, 1<<20), api.ErrLong, 1)
	unreadScript(t, full(1<<20), api.ErrLong, 4)
	for _, first := range []byte{0, 1, 0x80, 0xff} {
		for _, n := range []int{1<<20 + 1, 1<<20 + 2, 1 << 21} {
			b := bytes.Repeat([]byte{first}, n)
			unreadScript(t, b, api.ErrLong, 1<<20)
			unreadScript(t, append(packed([][]byte{{10, 2}}), b...), api.ErrLong, 1<<20)
		}
	}
}

// unpacksAsPacked: P6.4: bytes are refused, or they are the encoding of the script that they are read as.
func unpacksAsPacked(t *testing.T, b []byte) (read bool) {
	t.Helper()
	l, fault := message.Unpack(b)
	if fault != (api.Fault{}) {
		if len(l) != 0 || fault.Err == api.OK || fault.At < 0 || fault.At > len(b) {
			t.Errorf("Unpack(% x): %d elements, %v", b, len(l), fault)
		}
		return false
	}
	if again, err := message.Pack(l); !bytes.Equal(again, b) || err != api.OK {
		t.Errorf("% x is read as %v, whose bytes are % x, %v", b, l, again, err)
	}
	return true
}

// TestUnpacksOneEncoding: P6.4, of few bytes at all, each at most 4.
func TestUnpacksOneEncoding(t *testing.T) {
	read, not := 0, 0
	for n := range 5 * 5 * 5 * 5 * 5 * 5 {
		var b []byte
		for ; n > 0; n /= 5 {
			b = append(b, byte(n%5))
		}
		if unpacksAsPacked(t, b) {
			read++
		} else {
			not++
		}
	}
	if read == 0 || not == 0 {
		t.Errorf("%d are read, %d are not", read, not)
	}
}

// TestScriptExamples: the last row of the chapter's table.
func TestScriptExamples(t *testing.T) {
	l := [][]byte{{0x0a, 0x02}, nil}
	b, err := message.Pack(l)
	if !bytes.Equal(b, []byte{2, 2, 0x0a, 2, 0}) || err != api.OK {
		t.Errorf("Pack: % x, %v", b, err)
	}
	if is, fault := message.Unpack(b); !equal(is, l) || fault != (api.Fault{}) {
		t.Errorf("Unpack: %v, %v", is, fault)
	}
	unreadScript(t, []byte{1, 3, 0x0a, 2}, api.ErrShort, 1)
	unreadScript(t, nil, api.ErrShort, 0)
}

func FuzzUnpack(f *testing.F) {
	f.Add([]byte{})
	f.Add(packed([][]byte{{10, 2}, nil, full(200), {0}}))
	f.Fuzz(func(t *testing.T, b []byte) { unpacksAsPacked(t, b) })
}
