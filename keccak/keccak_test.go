package keccak_test

import (
	"bytes"
	"crypto/sha3"
	"encoding/binary"
	"math/rand/v2"
	"slices"
	"testing"

	"distraint/api"
	"distraint/keccak"
)

const (
	ofNone = "a7ffc6f8bf1ed76651c14756a061d662f580ff4de43b49fa82d80a4b80f8434a"
	ofABC  = "3a985da74fe225b2045c172d6bd390bd855f086e3e9d525b46bfe24511431532"
)

// mixed tells n bytes, the same ones in every run, with other ones behind them as spare capacity.
func mixed(n int) []byte {
	source := rand.NewPCG(uint64(n), 3)
	b := make([]byte, n+200)
	for i := range b {
		b[i] = byte(source.Uint64() >> 24)
	}
	return b[:n]
}

// sizes are lengths around the ends of words and of blocks.
func sizes() []int {
	l := []int{0, 1, 7, 8, 9, 31, 32, 33, 64, 127, 128, 129, 255, 256, 257, 500, 1000}
	for _, blocks := range []int{136, 272, 408, 544, 1360} {
		l = append(l, blocks-2, blocks-1, blocks, blocks+1)
	}
	return l
}

// asked tells the hash of b, by the library.
func asked(b []byte) api.Hash { return sha3.Sum256(b) }

func same(t *testing.T, name string, is, want api.Hash) {
	t.Helper()
	if is != want {
		t.Errorf("%s: %x; want %x", name, is, want)
	}
}

// TestExamples: the chapter's table; its last row stands in TestRead.
func TestExamples(t *testing.T) {
	for _, x := range []struct {
		of   string
		want string
	}{{"", ofNone}, {"abc", ofABC}} {
		if s := keccak.Text(keccak.Sum([]byte(x.of))); s != x.want {
			t.Errorf("Sum(%s): %s; want %s", x.of, s, x.want)
		}
	}
	words := keccak.Permute([25]uint64{})
	if words[0] != 0xf1258f7940e1dde7 || words[24] != 0xeaf1ff7b5ceca249 {
		t.Errorf("Permute(the zero state): %x", words)
	}
	h := keccak.New()
	for _, piece := range []string{"a", "bc"} {
		if err := h.Write([]byte(piece)); err != api.OK {
			t.Errorf("Write(%s): %v", piece, err)
		}
	}
	if sum, err := h.Sum(); keccak.Text(sum) != ofABC || err != api.OK || h.Len() != 3 {
		t.Errorf("of a and bc: Sum %x, %v, Len %d", sum, err, h.Len())
	}
}

// TestSum: P3.1: bytes of all lengths around a block, and long ones; what lies behind them does not count.
func TestSum(t *testing.T) {
	for n := range 600 {
		b := mixed(n)
		same(t, "Sum of mixed bytes", keccak.Sum(b), asked(b))
		same(t, "Sum of bytes 0", keccak.Sum(make([]byte, n)), asked(make([]byte, n)))
	}
	ones := bytes.Repeat([]byte{0xff}, 300)
	for _, n := range []int{0, 135, 136, 137, 272} {
		same(t, "Sum of bytes 255", keccak.Sum(ones[:n]), asked(ones[:n]))
	}
	same(t, "Sum of 2^20 bytes", keccak.Sum(mixed(1<<20)), asked(mixed(1<<20)))
	same(t, "Sum of nil", keccak.Sum(nil), keccak.Sum([]byte{}))
}

// TestSumOfEndings: P3.1: bytes that look like those which end others, at the end of a block, are other bytes.
func TestSumOfEndings(t *testing.T) {
	seen := map[api.Hash][]byte{}
	for n := 130; n <= 136; n++ {
		for _, end := range [][]byte{nil, {6}, {0x86}, {0x80}, {6, 0}, {6, 0, 0x80}, {6, 0x80}, {0}} {
			b := append(bytes.Repeat([]byte{0x61}, n), end...)
			h := keccak.Sum(b)
			same(t, "Sum of endings", h, asked(b))
			if other, ok := seen[h]; ok {
				t.Errorf("% x and % x have the same hash", b, other)
			}
			seen[h] = b
		}
	}
}

// joined tells the bytes whose hash Join is to tell.
func joined(kind byte, l [][]byte) []byte {
	b := []byte{kind}
	for _, x := range l {
		b = binary.LittleEndian.AppendUint64(b, uint64(len(x)))
		b = append(b, x...)
	}
	return b
}

// TestJoin: P3.1: a kind alone, elements that are empty, that end with a block, and whose lengths have several bytes.
func TestJoin(t *testing.T) {
	lists := [][][]byte{nil, {}, {nil}, {{}}, {nil, {}, nil}, {{1}, {2}}, {{1, 2}}, {{2}, {1}}, {nil, {1, 2}}, {{1, 2}, nil}}
	for _, n := range sizes() {
		lists = append(lists, [][]byte{mixed(n)}, [][]byte{{9}, mixed(n), nil, mixed(n + 1)})
	}
	for _, n := range []int{118, 119, 127, 128, 255, 256, 257, 65535, 65536, 1 << 18} {
		lists = append(lists, [][]byte{mixed(n), mixed(3)})
	}
	many := make([][]byte, 500)
	for i := range many {
		many[i] = mixed(i)
	}
	lists = append(lists, many)
	for _, kind := range []byte{0, 1, 6, 127, 128, 255} {
		for i, l := range lists {
			if is, want := keccak.Join(kind, l), asked(joined(kind, l)); is != want {
				t.Errorf("Join(%d, list %d): %x; want %x", kind, i, is, want)
			}
		}
	}
}

// TestJoinTellsListsApart: P3.1: other kinds, and other elements of the same bytes, have other hashes.
func TestJoinTellsListsApart(t *testing.T) {
	seen := map[api.Hash]bool{}
	count := 0
	for _, kind := range []byte{0, 1, 2} {
		for _, l := range [][][]byte{nil, {nil}, {nil, nil}, {{1}}, {{1}, nil}, {nil, {1}}, {{1}, {2}}, {{1, 2}}, {{1, 2}, nil}, {nil, {1, 2}}} {
			seen[keccak.Join(kind, l)] = true
			count++
		}
	}
	if len(seen) != count {
		t.Errorf("%d hashes of %d lists", len(seen), count)
	}
}

// TestCallsLeaveTheirBytes: what is passed is not changed, nor is what lies behind it.
func TestCallsLeaveTheirBytes(t *testing.T) {
	whole := mixed(500)
	b := slices.Clone(whole)
	keccak.Sum(b[:100])
	keccak.Join(1, [][]byte{b[:100], b[100:250]})
	h := keccak.New()
	h.Write(b[:100])
	h.Sum()
	h.Write(b[100:400])
	h.Sum()
	if !bytes.Equal(b, whole) {
		t.Error("a call changed its bytes")
	}
}
