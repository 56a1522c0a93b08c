package params_test

import (
	"bytes"
	"encoding/binary"
	"math"
	"slices"
	"testing"

	"distraint/api"
	"distraint/params"
)

// items tells the values' encodings, by the library.
func items(p api.Params) (l [][]byte) {
	for i := range rows() {
		l = append(l, binary.AppendUvarint(nil, value(p, i)))
	}
	return
}

func encoded(p api.Params) []byte { return slices.Concat(items(p)...) }

// offset tells where the item i begins.
func offset(l [][]byte, i int) int { return len(slices.Concat(l[:i]...)) }

// decoded is a model of Read: it takes what the library's decoder takes, if that is the library's own encoding of it.
func decoded(b []byte) (api.Params, api.Fault) {
	var values []uint64
	at := 0
	for i, x := range rows() {
		n, size := binary.Uvarint(b[at:])
		if size == 0 && len(b)-at < 10 {
			return api.Params{}, fault(api.ErrShort, at)
		}
		if size <= 0 || !bytes.Equal(binary.AppendUvarint(nil, n), b[at:at+size]) {
			return api.Params{}, fault(api.ErrForm, at)
		}
		if n < x.least || n > x.most {
			return api.Params{}, fault(api.ErrRange, at)
		}
		values = append(values, n)
		if i == 1 && n > values[0] {
			return api.Params{}, fault(api.ErrOrder, at)
		}
		at += size
	}
	if at < len(b) {
		return api.Params{}, fault(api.ErrLong, at)
	}
	return filled(values), api.Fault{}
}

// readsAsModel: Read tells what the model does, and leaves its bytes as they were; what is read has the encoding that was read, which is P7.6.
func readsAsModel(t *testing.T, b []byte) (read bool) {
	t.Helper()
	space := append(bytes.Clone(b), 0xff, 0x80, 0, 1, 2, 3)
	whole := bytes.Clone(space)
	want, why := decoded(b)
	p, f := params.Read(space[:len(b)])
	if p != want || f != why {
		t.Errorf("Read(% x): %+v, %v; want %+v, %v", b, p, f, want, why)
	}
	if !bytes.Equal(space, whole) {
		t.Errorf("Read(% x) changed its bytes: % x", b, space)
	}
	if f != (api.Fault{}) {
		return false
	}
	if again, err := params.Bytes(p); !bytes.Equal(again, b) || err != api.OK {
		t.Errorf("% x is read as %+v, whose bytes are % x, %v", b, p, again, err)
	}
	return true
}

// refuses: bytes are not read, for this reason, which the model tells as well.
func refuses(t *testing.T, b []byte, err api.Errno, at int) {
	t.Helper()
	if _, f := decoded(b); f != fault(err, at) {
		t.Fatalf("the model tells %v of % x; want %v", f, b, fault(err, at))
	}
	readsAsModel(t, b)
}

// refusesAt: the item i is refused where it begins, whatever follows it: the rest, nothing, or more that is wrong.
func refusesAt(t *testing.T, l [][]byte, i int, item []byte, err api.Errno) {
	t.Helper()
	at := offset(l, i)
	head := slices.Concat(slices.Concat(l[:i]...), item)
	refuses(t, slices.Concat(head, slices.Concat(l[i+1:]...)), err, at)
	refuses(t, head, err, at)
	refuses(t, slices.Concat(head, []byte{0xff, 0x80, 0}), err, at)
}

// some are params to be encoded wrong: the default, free ones, and those at both ends.
func some() []api.Params {
	return []api.Params{params.Default(), free(), filled(column(least)), filled(column(most))}
}

// TestBytes: P7.3 and P7.6: each encoding, in memory that is new, and that it is read as what it was made from.
func TestBytes(t *testing.T) {
	for _, p := range valid() {
		want := encoded(p)
		b, err := params.Bytes(p)
		if !bytes.Equal(b, want) || err != api.OK {
			t.Errorf("Bytes(%+v): % x, %v; want % x", p, b, err, want)
		}
		clear(b[:cap(b)])
		if b, err = params.Bytes(p); !bytes.Equal(b, want) || err != api.OK {
			t.Errorf("Bytes(%+v): % x, %v, after an earlier result was overwritten", p, b, err)
		}
		if is, f := params.Read(b); is != p || f != (api.Fault{}) {
			t.Errorf("Read(% x): %+v, %v; want %+v", b, is, f, p)
		}
		readsAsModel(t, b)
	}
}

// TestReadsCutOff: P7.4: bytes that end at any place, within a value or ahead of it.
func TestReadsCutOff(t *testing.T) {
	for _, p := range some() {
		l := items(p)
		b := encoded(p)
		for i, item := range l {
			at := offset(l, i)
			for size := range item {
				refuses(t, b[:at+size], api.ErrShort, at)
			}
		}
	}
	refuses(t, nil, api.ErrShort, 0)
	refuses(t, []byte{}, api.ErrShort, 0)
}

// TestReadsTooMuch: P7.4: bytes that are left.
func TestReadsTooMuch(t *testing.T) {
	for _, p := range some() {
		b := encoded(p)
		for _, more := range [][]byte{{0}, {1}, {0x80}, {0xff, 0xff}, b} {
			refuses(t, slices.Concat(b, more), api.ErrLong, len(b))
		}
	}
}

// TestReadsBounds: P7.4: each value at its bounds and beyond.
func TestReadsBounds(t *testing.T) {
	for i := range rows() {
		for _, n := range in(i) {
			p := with(free(), i, n)
			if is, f := params.Read(encoded(p)); is != p || f != (api.Fault{}) {
				t.Errorf("Read(% x): %+v, %v; want %+v", encoded(p), is, f, p)
			}
		}
		for _, n := range out(i) {
			refusesAt(t, items(free()), i, binary.AppendUvarint(nil, n), api.ErrRange)
		}
	}
}

// TestReadsWrongForms: P7.4: each value written longer than it needs, and what is no number at all.
func TestReadsWrongForms(t *testing.T) {
	for _, p := range some() {
		l := items(p)
		for i := range l {
			longer := bytes.Clone(l[i])
			longer[len(longer)-1] |= 0x80
			refusesAt(t, l, i, slices.Concat(longer, []byte{0}), api.ErrForm)
			refusesAt(t, l, i, slices.Concat(longer, []byte{0x80, 0}), api.ErrForm)
			refusesAt(t, l, i, []byte{0x80, 0}, api.ErrForm)
			refusesAt(t, l, i, append(bytes.Repeat([]byte{0xff}, 9), 2), api.ErrForm)
			refusesAt(t, l, i, bytes.Repeat([]byte{0xff}, 10), api.ErrForm)
			refuses(t, slices.Concat(slices.Concat(l[:i]...), bytes.Repeat([]byte{0xff}, 9)), api.ErrShort, offset(l, i))
		}
	}
}

// TestReadsOrder: P7.4: MaxAge greater than Unbonding, at its first byte, whatever follows it; its own faults come ahead of that.
func TestReadsOrder(t *testing.T) {
	for _, n := range []uint64{1, 2, 100, 127, 128, 16384, 1<<20 - 1} {
		p := with(with(free(), 0, n), 1, n)
		if is, f := params.Read(encoded(p)); is != p || f != (api.Fault{}) {
			t.Errorf("Read(% x): %+v, %v; want %+v", encoded(p), is, f, p)
		}
		for _, m := range []uint64{n + 1, 1 << 20} {
			refusesAt(t, items(p), 1, binary.AppendUvarint(nil, m), api.ErrOrder)
		}
		for _, m := range []uint64{1<<20 + 1, 1 << 63, math.MaxUint64} {
			refusesAt(t, items(p), 1, binary.AppendUvarint(nil, m), api.ErrRange)
		}
		l := items(with(p, 1, 1<<20))
		b := slices.Concat(l[:2]...)
		refuses(t, b[:len(b)-1], api.ErrShort, len(l[0]))
		refuses(t, slices.Concat(b[:len(b)-1], []byte{0x80, 0}), api.ErrForm, len(l[0]))
	}
}

// TestReadsChanged: P7.4 and P7.6: bytes that differ from an encoding in one place, of which some are encodings too.
func TestReadsChanged(t *testing.T) {
	read, refused := 0, 0
	count := func(b []byte) {
		if readsAsModel(t, b) {
			read++
		} else {
			refused++
		}
	}
	for _, p := range some() {
		b := encoded(p)
		for i := range b {
			count(slices.Delete(bytes.Clone(b), i, i+1))
			for c := range 256 {
				other := bytes.Clone(b)
				other[i] = byte(c)
				count(other)
				count(slices.Insert(bytes.Clone(b), i, byte(c)))
			}
		}
	}
	if read < 100 || refused < 1000 {
		t.Errorf("%d are read, %d refused", read, refused)
	}
}

// TestByteExamples: the chapter's table, the bytes of its third row, and its last row.
func TestByteExamples(t *testing.T) {
	if b, err := params.Bytes(params.Default()); len(b) != 17 || err != api.OK {
		t.Errorf("Bytes: % x, %v", b, err)
	}
	refuses(t, nil, api.ErrShort, 0)
	refuses(t, []byte{5, 6}, api.ErrOrder, 1)
	refuses(t, []byte{0}, api.ErrRange, 0)
}

func FuzzRead(f *testing.F) {
	f.Add([]byte{})
	for _, p := range some() {
		f.Add(encoded(p))
	}
	f.Fuzz(func(t *testing.T, b []byte) { readsAsModel(t, b) })
}
