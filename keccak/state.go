package keccak

import (
	"iter"
	"math/bits"
)

// A state has side times side words, and is changed by so many rounds, each of which has a key of so many bits that may be set.
const (
	side    = 5
	rounds  = 24
	keyBits = 7
)

// turns tells by how many bits a word is rotated, by y and then by x.
var turns = [side][side]int{
	{0, 1, 62, 28, 27},
	{36, 44, 6, 55, 20},
	{3, 10, 43, 25, 39},
	{41, 45, 15, 21, 8},
	{18, 2, 61, 56, 14},
}

// state is the words, by y and then by x, and with them the keys, so that they are made once for all blocks of a hash.
type state struct {
	words [side][side]uint64
	keys  [rounds]uint64
	round int
}

func newState() state { return state{keys: keys()} }

// permuted tells what the rounds make of s, which is a copy already: its own steps may change it.
func (s state) permuted() state {
	steps := [...]func(){s.mixColumns, s.moveWords, s.bendRows, s.addKey}
	for r := range rounds {
		s.round = r
		for _, step := range steps {
			step()
		}
	}
	return s
}

// mixColumns combines each word with the columns at both sides of its own.
func (s *state) mixColumns() {
	var columns [side]uint64
	for y := range side {
		for x, w := range s.words[y] {
			columns[x] ^= w
		}
	}
	for x := range side {
		d := columns[(x+side-1)%side] ^ bits.RotateLeft64(columns[(x+1)%side], 1)
		for y := range side {
			s.words[y][x] ^= d
		}
	}
}

// moveWords rotates each word, and moves it to another place.
func (s *state) moveWords() {
	from := s.words // a copy, as words are overwritten before they are moved
	for y := range side {
		for x, w := range from[y] {
			s.words[(2*x+3*y)%side][y] = bits.RotateLeft64(w, turns[y][x])
		}
	}
}

// bendRows combines each word with the two that follow in its row: the one step that is not linear.
func (s *state) bendRows() {
	for y := range side {
		row := s.words[y] // a copy, for the same reason
		for x := range side {
			s.words[y][x] = row[x] ^ (^row[(x+1)%side] & row[(x+2)%side])
		}
	}
}

// addKey makes the rounds different from each other.
func (s *state) addKey() { s.words[0][0] ^= s.keys[s.round] }

// keys tells the keys of the rounds: the bit 2^j - 1 of each is the register's j-th one for it.
func keys() (k [rounds]uint64) {
	step := 0
	for bit := range register(rounds * keyBits) {
		place := 1<<(step%keyBits) - 1
		k[step/keyBits] |= bit << place
		step++
	}
	return
}

// register yields the bits that the shift register puts out in so many steps.
func register(steps int) iter.Seq[uint64] {
	return func(yield func(uint64) bool) {
		held := uint64(1)
		for range steps {
			if !yield(held & 1) {
				return
			}
			held *= 2
			if held >= 256 {
				held = held%256 ^ 113
			}
		}
	}
}
