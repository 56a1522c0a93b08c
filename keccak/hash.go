package keccak

import "distraint/api"

// Hash is a hash of bytes that come in pieces. New and Copy make it.
type Hash struct {
	// self is the hash itself: in a zero one, and in one that was copied by no call of Copy, it is not.
	self   *Hash
	sponge sponge
}

// New makes a hash of no bytes.
func New() *Hash { return made(newSponge()) }

func made(s sponge) *Hash {
	h := &Hash{sponge: s}
	h.self = h
	return h
}

// Write appends b.
func (h *Hash) Write(b []byte) api.Errno {
	if !h.valid() {
		return api.ErrNil
	}
	h.sponge.take(b)
	return api.OK
}

// Sum tells the hash of all bytes so far. It ends nothing: more may be written.
func (h *Hash) Sum() (api.Hash, api.Errno) {
	if !h.valid() {
		return api.Hash{}, api.ErrNil
	}
	return h.sponge.sum(), api.OK
}

// Len tells how many bytes were written so far.
func (h *Hash) Len() int {
	if !h.valid() {
		return 0
	}
	return h.sponge.size
}

// Copy makes another hash, of the same bytes so far.
func (h *Hash) Copy() *Hash {
	if !h.valid() {
		return nil
	}
	return made(h.sponge)
}

func (h *Hash) valid() bool { return h != nil && h.self == h }
