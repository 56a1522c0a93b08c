package stamp_test

import (
	"bytes"
	"encoding/binary"
	"slices"
	"testing"

	"distraint/api"
	"distraint/codec"
	"distraint/stamp"
)

func number(n uint64) []byte { return binary.AppendUvarint(nil, n) }

// items tells the items of a stamp's encoding, by the library.
func items(s api.Stamp) (l [][]byte) {
	for _, n := range []int{s.Validator, s.Since, s.Prior + 1, s.From} {
		l = append(l, number(uint64(n)))
	}
	return l
}

func encoded(s api.Stamp) []byte { return slices.Concat(items(s)...) }

func writer(t *testing.T, limit int) *codec.Writer {
	t.Helper()
	w, err := codec.NewWriter(limit)
	if err != api.OK {
		t.Fatal(err)
	}
	return w
}

// put: a stamp is put into a writer, with this result.
func put(t *testing.T, w *codec.Writer, s api.Stamp, want api.Errno) {
	t.Helper()
	if err := stamp.Put(w, s); err != want {
		t.Errorf("Put of %v: %v; want %v", s, err, want)
	}
}

// done: a writer tells these bytes, or this error.
func done(t *testing.T, w *codec.Writer, b []byte, want api.Errno) {
	t.Helper()
	if is, err := w.Done(); !bytes.Equal(is, b) || err != want {
		t.Errorf("Done: % x, %v; want % x, %v", is, err, b, want)
	}
}

// TestBytes: P12.4, written out, and of all valid edges.
func TestBytes(t *testing.T) {
	for _, x := range []struct {
		s    api.Stamp
		want []byte
	}{
		{of(2, 9, 1, 5), []byte{2, 9, 2, 5}}, {bare(2, 9), []byte{2, 9, 0, 0}}, {of(2, 9, 0, 5), []byte{2, 9, 1, 5}},
		{bare(0, 1), []byte{0, 1, 0, 0}}, {of(0, 1, 31, 1), []byte{0, 1, 32, 1}}, {of(31, 300, 30, 127), []byte{31, 0xac, 2, 31, 127}},
		{of(30, top, 31, top), []byte{30, 0x80, 0x80, 0x80, 0x80, 0x10, 32, 0x80, 0x80, 0x80, 0x80, 0x10}},
	} {
		if b, err := stamp.Bytes(x.s); !bytes.Equal(b, x.want) || err != api.OK {
			t.Errorf("Bytes(%v): % x, %v; want % x", x.s, b, err, x.want)
		}
	}
	for _, s := range valids() {
		b, err := stamp.Bytes(s)
		if !bytes.Equal(b, encoded(s)) || err != api.OK {
			t.Errorf("Bytes(%v): % x, %v; want % x", s, b, err, encoded(s))
		}
		clear(b[:cap(b)])
		if again, err := stamp.Bytes(s); !bytes.Equal(again, encoded(s)) || err != api.OK {
			t.Errorf("Bytes(%v): % x, %v, after the others were overwritten", s, again, err)
		}
	}
}

// TestBytesOfInvalid: P12.4: the error of Check, and no bytes.
func TestBytesOfInvalid(t *testing.T) {
	for _, s := range append(invalids(), edges()...) {
		if isValid(s) {
			continue
		}
		if b, err := stamp.Bytes(s); len(b) != 0 || err != wrong(s) {
			t.Errorf("Bytes(%v): % x, %v; want %v", s, b, err, wrong(s))
		}
	}
}

// TestPut: P12.4: stamps are written one after the other, behind what was there, and others behind them.
func TestPut(t *testing.T) {
	w := writer(t, api.MaxWrite)
	w.U(300)
	want := number(300)
	for _, s := range valids() {
		put(t, w, s, api.OK)
		want = append(want, encoded(s)...)
	}
	done(t, w, want, api.OK)
	w.Blob([]byte("ab"))
	done(t, w, append(want, 2, 'a', 'b'), api.OK)
}

// TestPutInvalidWriter: P12.4: ErrNil comes first, of stamps that are valid and of others.
func TestPutInvalidWriter(t *testing.T) {
	twin := *writer(t, api.MaxWrite)
	for _, w := range []*codec.Writer{nil, {}, &twin} {
		for _, s := range append(valids(), invalids()...) {
			put(t, w, s, api.ErrNil)
		}
		done(t, w, nil, api.ErrNil)
	}
}

// TestPutFull: P12.4: a writer that becomes full at each byte of each of the four numbers, behind nothing and behind other bytes.
func TestPutFull(t *testing.T) {
	for _, s := range append(valids(), of(31, top, 30, top), of(2, 9, 1, 5), of(2, 300, 1, 300)) {
		b := encoded(s)
		for _, ahead := range []int{0, 1, 7} {
			for size := range len(b) {
				w := writer(t, ahead+size)
				for range ahead {
					w.U(3)
				}
				put(t, w, s, api.ErrLong)
				done(t, w, nil, api.ErrLong)
				put(t, w, bare(0, 1), api.ErrLong)
			}
			w := writer(t, ahead+len(b))
			for range ahead {
				w.U(3)
			}
			put(t, w, s, api.OK)
			done(t, w, append(bytes.Repeat([]byte{3}, ahead), b...), api.OK)
			put(t, w, bare(0, 1), api.ErrLong) // it is full
			done(t, w, nil, api.ErrLong)
		}
	}
}

// TestPutIntoError: P12.4: a writer keeps the error that it has.
func TestPutIntoError(t *testing.T) {
	long, outside := writer(t, 1), writer(t, api.MaxWrite)
	long.U(300)
	outside.U(5)
	outside.N(-1)
	for _, s := range valids() {
		put(t, long, s, api.ErrLong)
		put(t, outside, s, api.ErrRange)
	}
	// The error of Check comes first.
	for _, s := range invalids() {
		put(t, long, s, wrong(s))
		put(t, outside, s, wrong(s))
	}
	done(t, long, nil, api.ErrLong)
	done(t, outside, nil, api.ErrRange)
}

// TestPutOfInvalid: P12.4: nothing is written, and the writer gets no error, be it empty, full, or something between.
func TestPutOfInvalid(t *testing.T) {
	for _, limit := range []int{2, 3, 6, api.MaxWrite} {
		w := writer(t, limit)
		w.U(300)
		for _, s := range invalids() {
			put(t, w, s, wrong(s))
			done(t, w, []byte{0xac, 2}, api.OK)
		}
		if limit >= 6 {
			put(t, w, of(2, 9, 1, 5), api.OK)
			done(t, w, []byte{0xac, 2, 2, 9, 2, 5}, api.OK)
		}
	}
	w := writer(t, 0)
	for _, s := range invalids() {
		put(t, w, s, wrong(s))
	}
	done(t, w, nil, api.OK)
}
