package keccak_test

import (
	"math/rand/v2"
	"slices"
	"testing"

	"distraint/api"
	"distraint/keccak"
)

// holds checks that a hash is that of these bytes.
func holds(t *testing.T, name string, h *keccak.Hash, b []byte) {
	t.Helper()
	if sum, err := h.Sum(); sum != asked(b) || err != api.OK {
		t.Errorf("%s: Sum %x, %v; want that of %d bytes", name, sum, err, len(b))
	}
	if n := h.Len(); n != len(b) {
		t.Errorf("%s: Len %d; want %d", name, n, len(b))
	}
}

func writes(t *testing.T, h *keccak.Hash, b []byte) {
	t.Helper()
	if err := h.Write(b); err != api.OK {
		t.Errorf("Write of %d bytes: %v", len(b), err)
	}
}

// written tells a hash of these pieces.
func written(t *testing.T, pieces ...[]byte) *keccak.Hash {
	t.Helper()
	h := keccak.New()
	for _, piece := range pieces {
		writes(t, h, piece)
	}
	return h
}

// TestNew: P3.3: a hash of nothing, each time another one.
func TestNew(t *testing.T) {
	a, b := keccak.New(), keccak.New()
	writes(t, a, []byte("a"))
	holds(t, "new", b, nil)
	holds(t, "written", a, []byte("a"))
	for range 3 {
		writes(t, b, nil)
		writes(t, b, []byte{})
		holds(t, "with empty pieces", b, nil)
	}
}

// TestSumGoesOn: P3.3: a sum after every byte changes nothing, at the ends of blocks least of all.
func TestSumGoesOn(t *testing.T) {
	b := mixed(420)
	h := keccak.New()
	for n := range b {
		holds(t, "byte by byte", h, b[:n])
		holds(t, "byte by byte, again", h, b[:n])
		writes(t, h, b[n:n+1])
	}
	holds(t, "at the end", h, b)
}

// TestCopy: P3.3: a copy and its original go on, each by itself, whichever is written to first.
func TestCopy(t *testing.T) {
	for _, n := range sizes() {
		b, more := mixed(n), mixed(333)
		h := written(t, b)
		first := h.Copy()
		second := first.Copy()
		writes(t, first, more)
		holds(t, "the original", h, b)
		holds(t, "the written copy", first, slices.Concat(b, more))
		holds(t, "the copy of the copy", second, b)
		writes(t, h, []byte{7})
		writes(t, h, more[:200])
		holds(t, "the written original", h, slices.Concat(b, []byte{7}, more[:200]))
		holds(t, "the written copy, later", first, slices.Concat(b, more))
		holds(t, "the copy of the copy, later", second, b)
		late := h.Copy()
		writes(t, second, []byte{1})
		holds(t, "a later copy", late, slices.Concat(b, []byte{7}, more[:200]))
		holds(t, "the copy of the copy, written", second, append(slices.Clone(b), 1))
	}
}

// TestWriteKeepsNothing: P3.3: what was written may change afterwards.
func TestWriteKeepsNothing(t *testing.T) {
	for _, n := range sizes() {
		b := slices.Clone(mixed(n))
		h := written(t, b)
		clear(b[:cap(b)])
		holds(t, "after a change", h, mixed(n))
	}
}

// TestInvalidHashes: P3.3: none, one that no call made, copies of these, and a copy that Copy did not make.
func TestInvalidHashes(t *testing.T) {
	original := written(t, []byte("abc"))
	twin := *original
	invalid := map[string]*keccak.Hash{"none": nil, "zero": {}, "twin": &twin}
	for _, name := range []string{"none", "zero", "twin"} {
		invalid["copy of "+name] = invalid[name].Copy()
	}
	for name, h := range invalid {
		for range 2 {
			for _, b := range [][]byte{nil, {1}, mixed(300)} {
				if err := h.Write(b); err != api.ErrNil {
					t.Errorf("%s: Write: %v", name, err)
				}
			}
			if sum, err := h.Sum(); sum != (api.Hash{}) || err != api.ErrNil {
				t.Errorf("%s: Sum: %x, %v", name, sum, err)
			}
			if n := h.Len(); n != 0 {
				t.Errorf("%s: Len %d", name, n)
			}
		}
	}
	holds(t, "the original of the twin", original, []byte("abc"))
}

// TestTwoPieces: P3.4: bytes around whole blocks, cut at every place, with empty pieces between.
func TestTwoPieces(t *testing.T) {
	for _, n := range []int{0, 1, 2, 135, 136, 137, 271, 272, 273, 408} {
		b := mixed(n)
		for at := range n + 1 {
			holds(t, "two pieces", written(t, b[:at], b[at:]), b)
			holds(t, "with empty ones", written(t, nil, b[:at], nil, []byte{}, b[at:], nil), b)
		}
	}
}

// TestManyPieces: P3.4: pieces of one length, and pieces that end at, before and behind the ends of blocks.
func TestManyPieces(t *testing.T) {
	b := mixed(1500)
	for size := 1; size <= 420; size++ {
		holds(t, "pieces of one length", written(t, slices.Collect(slices.Chunk(b, size))...), b)
	}
	for _, first := range []int{0, 1, 134, 135, 136, 137, 271, 272, 273} {
		for _, second := range []int{0, 1, 2, 134, 135, 136, 137, 270, 271, 272, 273} {
			for _, third := range []int{0, 1, 135, 136, 137} {
				ends := first + second
				holds(t, "three pieces", written(t, b[:first], b[first:ends], b[ends:ends+third]), b[:ends+third])
			}
		}
	}
}

// traced is a hash, and the bytes that it is of.
type traced struct {
	hash  *keccak.Hash
	bytes []byte
}

// TestMixedCalls: P3.3 and P3.4: many calls in an order that is the same in every run, on several hashes that are copied from each other.
func TestMixedCalls(t *testing.T) {
	numbers := rand.New(rand.NewPCG(8, 9))
	all := []traced{{keccak.New(), nil}}
	for range 4000 {
		at := numbers.IntN(len(all))
		x := &all[at]
		switch numbers.IntN(6) {
		case 0:
			holds(t, "mixed calls", x.hash, x.bytes)
		case 1:
			twin := traced{x.hash.Copy(), slices.Clone(x.bytes)}
			if len(all) < 12 {
				all = append(all, twin)
			} else {
				all[numbers.IntN(len(all))] = twin
			}
		default:
			piece := mixed(numbers.IntN(300) >> numbers.IntN(8))
			writes(t, x.hash, piece)
			x.bytes = append(x.bytes, piece...)
		}
	}
	for _, x := range all {
		holds(t, "mixed calls, at the end", x.hash, x.bytes)
	}
}
