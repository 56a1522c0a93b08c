package vote

import (
	"distraint/api"
	"distraint/codec"
	"distraint/keccak"
)

const lastValidator = api.MaxValidators - 1

// bounds are a number, and the least and the most that it may be.
type bounds struct{ n, least, most int }

// within tells whether each number is within its bounds.
func within(all ...bounds) api.Errno {
	for _, b := range all {
		if b.n < b.least || b.n > b.most {
			return api.ErrRange
		}
	}
	return api.OK
}

// A write writes an item of a vote. A vote's first one writes nothing, but returns the error of one that is not valid: so no item of it is written.
type write func() api.Errno

// A list is the writes of a part of a vote, over a writer.
type list func(w *codec.Writer) []write

// tagged lists what writes a tag.
func tagged(tag uint64) list {
	return func(w *codec.Writer) []write {
		return []write{func() api.Errno { return w.U(tag) }}
	}
}

// encode tells what the parts of a vote write, or the first error of a write.
func encode(parts ...list) ([]byte, api.Errno) {
	w, err := codec.NewWriter(api.MaxWrite)
	if err != api.OK {
		return nil, err
	}
	for _, part := range parts {
		for _, do := range part(w) {
			if err := do(); err != api.OK {
				return nil, err
			}
		}
	}
	return w.Done()
}

// digest tells the hash of what a part writes.
func digest(part list) (api.Hash, api.Errno) {
	b, err := encode(part)
	if err != api.OK {
		return api.Hash{}, err
	}
	return keccak.Sum(b), api.OK
}

// differ tells whether two votes are valid and have different digests.
func differ[V any](a, b V, of func(V) (api.Hash, api.Errno)) bool {
	first, err := of(a)
	if err != api.OK {
		return false
	}
	second, err := of(b)
	return err == api.OK && first != second
}
