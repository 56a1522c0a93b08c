package codec_test

import (
	"bytes"
	"math"
	"testing"

	"distraint/api"
	"distraint/codec"
)

// blob tells the byte string of the item i: of lengths around those at which the length's own encoding grows, long ones among the first items only.
func blob(i int) []byte {
	sizes := []int{0, 1, 2, 31, 126, 127, 128, 129, 16383, 16384}
	if i >= 4*len(sizes) {
		sizes = sizes[:8]
	}
	b := make([]byte, sizes[i%len(sizes)])
	for at := range b {
		b[at] = byte(at*37 + i)
	}
	return b
}

// TestReadBack: P2.5: all kinds of items, mixed, in one writer.
func TestReadBack(t *testing.T) {
	w := writer(t, api.MaxWrite)
	all := append(numbers(), mixed(1000)...)
	size := 0
	for i, n := range all {
		b, h := blob(i), api.Hash{byte(n), 31: byte(i)}
		for _, err := range []api.Errno{w.U(n), w.N(int(n >> 1)), w.Hash(h), w.Blob(b)} {
			told(t, "write", err, api.OK)
		}
		size += codec.Size(n) + codec.Size(n>>1) + 32 + codec.Size(uint64(len(b))) + len(b)
	}
	written := sure[[]byte](t)(w.Done())
	if len(written) != size {
		t.Errorf("%d bytes; want %d", len(written), size)
	}
	r := codec.NewReader(written)
	for i, n := range all {
		u, k, h, b := r.U(), r.N(0, math.MaxInt), r.Hash(), r.Blob(1<<14)
		if u != n || k != int(n>>1) || h != (api.Hash{byte(n), 31: byte(i)}) || !bytes.Equal(b, blob(i)) {
			t.Fatalf("item %d: U %d, N %d, Hash % x, Blob of %d; want %d", i, u, k, h, len(b), n)
		}
	}
	stands(t, "at the end", r, size, 0, api.Fault{})
}

// TestOneEncoding: P2.5: of many byte strings, right and wrong ones: what is read from one has exactly the encoding that was read.
func TestOneEncoding(t *testing.T) {
	seeds := mixed(20000)
	numbers, strings := 0, 0
	for i := 0; i+1 < len(seeds); i += 2 {
		b := codec.Put(seeds[i])
		b = append(b, codec.Put(seeds[i+1])...)
		b[seeds[i]%uint64(len(b))] ^= byte(seeds[i+1]) & 0x81
		r := codec.NewReader(b)
		n := r.U()
		if from := r.At(); r.End().Err == api.OK || r.End().Err == api.ErrLong {
			numbers++
			if !bytes.Equal(codec.Put(n), b[:from]) {
				t.Errorf("% x is read as %d", b[:from], n)
			}
		}
		b[0] &= 0x83
		r = codec.NewReader(b)
		s := r.Blob(len(b))
		if end := r.End(); end == (api.Fault{}) || end == fault(api.ErrLong, r.At()) && r.Left() > 0 {
			strings++
			w := writer(t, len(b))
			told(t, "Blob", w.Blob(s), api.OK)
			wrote(t, w, b[:r.At()], api.OK)
		}
	}
	if numbers < 1000 || strings < 1000 {
		t.Error("too few were read:", numbers, strings)
	}
}
