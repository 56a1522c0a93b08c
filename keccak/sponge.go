package keccak

import "distraint/api"

// A word and a block have so many bytes, a byte so many bits.
const (
	wordSize  = 8
	blockSize = 136
	byteBits  = 8
)

// The byte that ends all bytes, and the bit that ends their last block.
const (
	ending  = 6
	lastBit = 0x80
)

// block is bytes that wait until they are enough for a state; those behind the count may be an earlier block's.
type block struct {
	bytes [blockSize]byte
	count int
}

// fill takes as much of b as there is room for, and tells the rest of it.
func (p *block) fill(b []byte) []byte {
	n := copy(p.bytes[p.count:], b)
	p.count += n
	return b[n:]
}

// sponge is a state that has taken in all bytes but those that wait. It is a value: a copy goes on by itself.
type sponge struct {
	state   state
	waiting block
	size    int
}

func newSponge() sponge { return sponge{state: newState()} }

// take appends b.
func (s *sponge) take(b []byte) {
	s.size += len(b)
	for len(b) > 0 {
		b = s.waiting.fill(b)
		if s.waiting.count == blockSize {
			s.absorb()
		}
	}
}

// absorb takes in a block that is full.
func (s *sponge) absorb() {
	for i := range blockSize / wordSize {
		s.state.words[i/side][i%side] ^= word(s.waiting.bytes[i*wordSize:])
	}
	s.state = s.state.permuted()
	s.waiting.count = 0
}

// sum tells the hash of all bytes; what ends them is taken in by a copy alone. There is room for it: a full block does not wait.
func (s sponge) sum() (h api.Hash) {
	s.waiting.bytes[s.waiting.count] = ending
	clear(s.waiting.bytes[s.waiting.count+1:])
	s.waiting.bytes[blockSize-1] ^= lastBit
	s.absorb()
	for i := range len(h) / wordSize {
		w := split(s.state.words[i/side][i%side])
		copy(h[i*wordSize:], w[:])
	}
	return
}

// word tells the word that the first eight bytes of b are, the lowest one first.
func word(b []byte) (w uint64) {
	for i, c := range b[:wordSize] {
		w |= uint64(c) << (i * byteBits)
	}
	return
}

// split tells the bytes of a word, the lowest one first.
func split(w uint64) (b [wordSize]byte) {
	for i := range b {
		b[i] = byte(w >> (i * byteBits))
	}
	return
}
