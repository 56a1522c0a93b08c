package codec_test

import (
	"bytes"
	"math"
	"slices"
	"testing"

	"distraint/api"
	"distraint/codec"
)

// writer tells a new writer.
func writer(t *testing.T, limit int) *codec.Writer {
	t.Helper()
	return sure[*codec.Writer](t)(codec.NewWriter(limit))
}

// write is a call that writes something.
type write struct {
	name string
	do   func(w *codec.Writer) api.Errno
}

// writes tells a call of each kind; the last one, of a negative number, is wrong by itself.
func writes() []write {
	return []write{
		{"U", func(w *codec.Writer) api.Errno { return w.U(1) }},
		{"N", func(w *codec.Writer) api.Errno { return w.N(1) }},
		{"Hash", func(w *codec.Writer) api.Errno { return w.Hash(api.Hash{}) }},
		{"Blob", func(w *codec.Writer) api.Errno { return w.Blob([]byte("ab")) }},
		{"Blob of none", func(w *codec.Writer) api.Errno { return w.Blob(nil) }},
		{"N below 0", func(w *codec.Writer) api.Errno { return w.N(-1) }},
	}
}

func wrote(t *testing.T, w *codec.Writer, want []byte, err api.Errno) {
	t.Helper()
	if b, e := w.Done(); !bytes.Equal(b, want) || e != err {
		t.Errorf("Done: % x, %v; want % x, %v", b, e, want, err)
	}
}

func told(t *testing.T, call string, is, want api.Errno) {
	t.Helper()
	if is != want {
		t.Errorf("%s: %v; want %v", call, is, want)
	}
}

// TestWriterExample: the chapter's table, its third row.
func TestWriterExample(t *testing.T) {
	w := writer(t, 5)
	told(t, "N(5)", w.N(5), api.OK)
	told(t, "Blob(a b)", w.Blob([]byte("ab")), api.OK)
	told(t, "U(1)", w.U(1), api.OK)
	wrote(t, w, []byte{5, 2, 'a', 'b', 1}, api.OK)
	told(t, "U(1)", w.U(1), api.ErrLong)
	wrote(t, w, nil, api.ErrLong)
}

// TestLimits: P2.2, of NewWriter.
func TestLimits(t *testing.T) {
	for _, limit := range []int{math.MinInt, -1, api.MaxWrite + 1, math.MaxInt} {
		if w, err := codec.NewWriter(limit); w != nil || err != api.ErrRange {
			t.Errorf("NewWriter(%d): %v, %v", limit, w, err)
		}
	}
	for _, limit := range []int{0, 1, api.MaxWrite - 1, api.MaxWrite} {
		wrote(t, writer(t, limit), nil, api.OK)
	}
}

// TestWritten: P2.2: the encodings of the chapter's terms, one behind the other.
func TestWritten(t *testing.T) {
	w := writer(t, 400)
	h := api.Hash{0: 1, 15: 0x80, 31: 9}
	long := bytes.Repeat([]byte{0xff}, 200)
	var want []byte
	for _, x := range []struct {
		name string
		err  api.Errno
		b    []byte
	}{
		{"U(0)", w.U(0), []byte{0}},
		{"U(2^64 - 1)", w.U(m), codec.Put(m)},
		{"N(0)", w.N(0), []byte{0}},
		{"N(127)", w.N(127), []byte{0x7f}},
		{"N(128)", w.N(128), []byte{0x80, 0x01}},
		{"N(2^63 - 1)", w.N(math.MaxInt), codec.Put(math.MaxInt)},
		{"Hash", w.Hash(h), h[:]},
		{"Blob(none)", w.Blob(nil), []byte{0}},
		{"Blob(empty)", w.Blob([]byte{}), []byte{0}},
		{"Blob(0)", w.Blob([]byte{0}), []byte{1, 0}},
		{"Blob(long)", w.Blob(long), append([]byte{0xc8, 0x01}, long...)},
	} {
		told(t, x.name, x.err, api.OK)
		want = append(want, x.b...)
	}
	wrote(t, w, want, api.OK)
	wrote(t, w, want, api.OK)
}

// TestFull: P2.2: each item at a limit at which it just fits, and at one byte less, alone and behind another item.
func TestFull(t *testing.T) {
	for _, x := range []struct {
		name string
		size int
		do   func(w *codec.Writer) api.Errno
	}{
		{"U(0)", 1, func(w *codec.Writer) api.Errno { return w.U(0) }},
		{"U(128)", 2, func(w *codec.Writer) api.Errno { return w.U(128) }},
		{"U(2^64 - 1)", 10, func(w *codec.Writer) api.Errno { return w.U(m) }},
		{"N(127)", 1, func(w *codec.Writer) api.Errno { return w.N(127) }},
		{"N(128)", 2, func(w *codec.Writer) api.Errno { return w.N(128) }},
		{"Hash", 32, func(w *codec.Writer) api.Errno { return w.Hash(api.Hash{1}) }},
		{"Blob(none)", 1, func(w *codec.Writer) api.Errno { return w.Blob(nil) }},
		{"Blob(ab)", 3, func(w *codec.Writer) api.Errno { return w.Blob([]byte("ab")) }},
		{"Blob of 127", 128, func(w *codec.Writer) api.Errno { return w.Blob(make([]byte, 127)) }},
		{"Blob of 128", 130, func(w *codec.Writer) api.Errno { return w.Blob(make([]byte, 128)) }},
	} {
		for _, ahead := range []int{0, 1, 5} {
			fits, long := writer(t, ahead+x.size), writer(t, ahead+x.size-1)
			for range ahead {
				told(t, "U(7)", fits.U(7), api.OK)
				told(t, "U(7)", long.U(7), api.OK)
			}
			told(t, x.name+" that fits", x.do(fits), api.OK)
			if b := sure[[]byte](t)(fits.Done()); len(b) != ahead+x.size {
				t.Errorf("%s: %d bytes; want %d", x.name, len(b), ahead+x.size)
			}
			told(t, x.name+" that does not fit", x.do(long), api.ErrLong)
			wrote(t, long, nil, api.ErrLong)
		}
	}
}

// TestGreatestLimit: P2.2: a writer of 2^20 bytes, filled to its end, and not beyond.
func TestGreatestLimit(t *testing.T) {
	w := writer(t, api.MaxWrite)
	b := bytes.Repeat([]byte{0xab}, api.MaxWrite-3)
	told(t, "Blob of the limit", w.Blob(b), api.OK)
	wrote(t, w, slices.Concat([]byte{0xfd, 0xff, 0x3f}, b), api.OK)
	told(t, "U(0)", w.U(0), api.ErrLong)
	w = writer(t, api.MaxWrite)
	told(t, "Blob beyond the limit", w.Blob(append(b, 0xab)), api.ErrLong)
	w = writer(t, api.MaxWrite)
	told(t, "Blob far beyond the limit", w.Blob(make([]byte, 4*api.MaxWrite)), api.ErrLong)
}

// TestWriterKeepsItsError: P2.2: the first error counts, for every later call, though it would fit or has an error of its own.
func TestWriterKeepsItsError(t *testing.T) {
	for _, x := range []struct {
		name string
		do   func(w *codec.Writer) api.Errno
		err  api.Errno
	}{
		{"too long", func(w *codec.Writer) api.Errno { return w.Blob(make([]byte, 200)) }, api.ErrLong},
		{"below 0", func(w *codec.Writer) api.Errno { return w.N(-1) }, api.ErrRange},
		{"far below 0", func(w *codec.Writer) api.Errno { return w.N(math.MinInt) }, api.ErrRange},
	} {
		w := writer(t, 100)
		told(t, "U(1)", w.U(1), api.OK)
		told(t, x.name, x.do(w), x.err)
		for range 2 {
			for _, call := range writes() {
				told(t, call.name+" after "+x.name, call.do(w), x.err)
			}
			wrote(t, w, nil, x.err)
		}
	}
	w := writer(t, 0)
	told(t, "N(-1) where nothing fits", w.N(-1), api.ErrRange)
}

// TestInvalidWriters: P2.2: none, one that NewWriter did not make, and a copy of one that it made.
func TestInvalidWriters(t *testing.T) {
	made := writer(t, 9)
	told(t, "U(7)", made.U(7), api.OK)
	twin := *made
	for name, w := range map[string]*codec.Writer{"none": nil, "zero": {}, "copy": &twin} {
		for _, call := range writes() {
			told(t, call.name+" of "+name, call.do(w), api.ErrNil)
		}
		wrote(t, w, nil, api.ErrNil)
	}
	wrote(t, made, []byte{7}, api.OK)
}

// TestWriterSharesNothing: what Done tells is new memory each time, and what Blob takes is not kept.
func TestWriterSharesNothing(t *testing.T) {
	w := writer(t, 100)
	b := append(make([]byte, 0, 8), "abcd"...)
	told(t, "Blob(ab)", w.Blob(b[:2]), api.OK)
	if string(b) != "abcd" {
		t.Errorf("Blob changed its bytes: %s", b)
	}
	b[0] = 'x'
	first := sure[[]byte](t)(w.Done())
	second := sure[[]byte](t)(w.Done())
	first[0] = 9
	_ = append(first, 'x', 'x', 'x')
	clear(second[:cap(second)])
	told(t, "U(5)", w.U(5), api.OK)
	wrote(t, w, []byte{2, 'a', 'b', 5}, api.OK)
	if string(first) != "\x09ab" {
		t.Errorf("the writer changed what it told: % x", first)
	}
}
