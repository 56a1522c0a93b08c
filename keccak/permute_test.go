package keccak_test

import (
	"math/bits"
	"math/rand/v2"
	"testing"

	"distraint/keccak"
)

// words are a state's, as the chapter counts them: A[x, y] has the index x + 5 y.
type words = [25]uint64

// givenKeys tells K, written out.
func givenKeys() []uint64 {
	return []uint64{
		0x0000000000000001, 0x0000000000008082, 0x800000000000808a, 0x8000000080008000,
		0x000000000000808b, 0x0000000080000001, 0x8000000080008081, 0x8000000000008009,
		0x000000000000008a, 0x0000000000000088, 0x0000000080008009, 0x000000008000000a,
		0x000000008000808b, 0x800000000000008b, 0x8000000000008089, 0x8000000000008003,
		0x8000000000008002, 0x8000000000000080, 0x000000000000800a, 0x800000008000000a,
		0x8000000080008081, 0x8000000000008080, 0x0000000080000001, 0x8000000080008008,
	}
}

// givenTurns tells R by the walk of FIPS 202, not by the chapter's table.
func givenTurns() (l [25]int) {
	x, y := 1, 0
	for i := range 24 {
		l[x+5*y] = (i + 1) * (i + 2) / 2 % 64
		x, y = y, (2*x+3*y)%5
	}
	return
}

// columnsMixed tells what the chapter's step 1 makes of a.
func columnsMixed(a words) words {
	var c [5]uint64
	for i, w := range a {
		c[i%5] ^= w
	}
	for i := range a {
		a[i] ^= c[(i+4)%5] ^ bits.RotateLeft64(c[(i%5+1)%5], 1)
	}
	return a
}

// columnsUnmixed undoes step 1, of which 192 make nothing of a state.
func columnsUnmixed(a words) words {
	for range 191 {
		a = columnsMixed(a)
	}
	return a
}

// wordsMovedBack undoes step 2.
func wordsMovedBack(b words) (a words) {
	turns := givenTurns()
	for x := range 5 {
		for y := range 5 {
			a[x+5*y] = bits.RotateLeft64(b[y+5*((2*x+3*y)%5)], -turns[x+5*y])
		}
	}
	return
}

// rowsUnbent tells, by what step 3 makes of five bits (that with the number x at the coordinate x), which ones they were.
func rowsUnbent() (was [32]uint64) {
	for row := range uint64(32) {
		bent := uint64(0)
		for x := range 5 {
			bent |= (row>>x ^ ^(row>>((x+1)%5))&(row>>((x+2)%5))) & 1 << x
		}
		was[bent] = row
	}
	return
}

// unbent undoes step 3, bit by bit.
func unbent(a words) (b words) {
	was := rowsUnbent()
	for y := range 5 {
		for bit := range 64 {
			row := uint64(0)
			for x := range 5 {
				row |= a[x+5*y] >> bit & 1 << x
			}
			for x := range 5 {
				b[x+5*y] |= was[row] >> x & 1 << bit
			}
		}
	}
	return
}

// undone tells which state the rounds made a of: that there is one way back shows that no two states become the same one.
func undone(a words) words {
	keys := givenKeys()
	for r := 23; r >= 0; r-- {
		a[0] ^= keys[r]
		a = columnsUnmixed(wordsMovedBack(unbent(a)))
	}
	return a
}

// states are the zero state, those with a bit in one word, those with a whole word, the full one, and mixed ones.
func states() []words {
	l := []words{{}}
	full := words{}
	for i := range full {
		for _, w := range []uint64{1, 1 << (7 * i % 64), 1 << 63, 1<<64 - 1} {
			s := words{}
			s[i] = w
			l = append(l, s)
		}
		full[i] = 1<<64 - 1
	}
	l = append(l, full)
	source := rand.NewPCG(5, 6)
	for range 100 {
		s := words{}
		for i := range s {
			s[i] = source.Uint64()
		}
		l = append(l, s)
	}
	return l
}

// TestPermute: P3.1 and P3.5: each state is found again from what Permute makes of it, by the chapter's rounds backwards.
func TestPermute(t *testing.T) {
	for _, s := range states() {
		given := s
		p := keccak.Permute(s)
		if s != given {
			t.Fatal("Permute changed its argument")
		}
		if is := undone(p); is != s {
			t.Errorf("Permute(%x): %x, which is what becomes of %x", s, p, is)
		}
		if keccak.Permute(s) != p {
			t.Errorf("Permute(%x) is not the same twice", s)
		}
	}
}

// TestPermuteTellsStatesApart: P3.5: states that differ in one bit, all of them.
func TestPermuteTellsStatesApart(t *testing.T) {
	for _, base := range []words{{}, {3: 77, 24: 1 << 63}} {
		seen := map[words]int{keccak.Permute(base): -1}
		for bit := range 1600 {
			s := base
			s[bit/64] ^= 1 << (bit % 64)
			p := keccak.Permute(s)
			if other, ok := seen[p]; ok {
				t.Errorf("the bits %d and %d make the same state", bit, other)
			}
			seen[p] = bit
		}
	}
}

// TestPermuteInTheHash: P3.1: the hash of one block is what Permute makes of it.
func TestPermuteInTheHash(t *testing.T) {
	s := words{0: 0x06636261, 16: 1 << 63} // abc, and its ending
	p := keccak.Permute(s)
	h := keccak.Sum([]byte("abc"))
	for i, c := range h {
		if c != byte(p[i/8]>>(i%8*8)) {
			t.Fatalf("Sum(abc): %x; the state: %x", h, p)
		}
	}
}
