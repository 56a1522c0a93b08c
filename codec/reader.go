package codec

import (
	"bytes"
	"math"

	"distraint/api"
)

// Reader is bytes that are read, item by item. NewReader makes it.
type Reader struct {
	// self is the reader itself: in a zero one, and in a copy, it is not.
	self  *Reader
	all   []byte
	at    int
	fault *api.Fault
}

// NewReader makes a reader of what b is now.
func NewReader(b []byte) *Reader {
	r := &Reader{all: bytes.Clone(b)}
	r.self = r
	return r
}

// U reads a number.
func (r *Reader) U() uint64 { return item(r, Get) }

// N reads a number from least to most.
func (r *Reader) N(least, most int) int {
	return item(r, func(b []byte, at int) (int, int, api.Fault) {
		n, to, fault := Get(b, at)
		if fault.Err != api.OK {
			return 0, 0, fault
		}
		if n > math.MaxInt || int(n) < least || int(n) > most {
			return 0, 0, api.Fault{Err: api.ErrRange, At: at}
		}
		return int(n), to, api.Fault{}
	})
}

// Hash reads a hash.
func (r *Reader) Hash() api.Hash {
	return item(r, func(b []byte, at int) (h api.Hash, to int, fault api.Fault) {
		if len(b)-at < len(h) {
			return h, 0, api.Fault{Err: api.ErrShort, At: at}
		}
		to = at + copy(h[:], b[at:])
		return
	})
}

// Blob reads a byte string of at most most bytes.
func (r *Reader) Blob(most int) []byte {
	return item(r, func(b []byte, at int) ([]byte, int, api.Fault) {
		n, from, fault := Get(b, at)
		if fault.Err != api.OK {
			return nil, 0, fault
		}
		if most < 0 || n > uint64(most) {
			return nil, 0, api.Fault{Err: api.ErrLong, At: at}
		}
		if n > uint64(len(b)-from) {
			return nil, 0, api.Fault{Err: api.ErrShort, At: at}
		}
		to := from + int(n)
		return bytes.Clone(b[from:to]), to, api.Fault{}
	})
}

// At tells the reader's offset, or that of its fault.
func (r *Reader) At() int {
	if fault := r.trouble(); fault != nil {
		return fault.At
	}
	return r.at
}

// Left tells how many bytes can still be read.
func (r *Reader) Left() int {
	if r.trouble() != nil {
		return 0
	}
	return len(r.all) - r.at
}

// Fail gives the reader a fault that its user found, if it has none.
func (r *Reader) Fail(e api.Errno, at int) {
	if e != api.OK && r.trouble() == nil {
		r.fault = &api.Fault{Err: e, At: at}
	}
}

// End tells the reader's fault, or that bytes are left. It ends nothing: these may still be read.
func (r *Reader) End() api.Fault {
	if fault := r.trouble(); fault != nil {
		return *fault
	}
	if r.Left() > 0 {
		return api.Fault{Err: api.ErrLong, At: r.at}
	}
	return api.Fault{}
}

// trouble tells why nothing can be read from r, or nil.
func (r *Reader) trouble() *api.Fault {
	if r == nil || r.self != r {
		return &api.Fault{Err: api.ErrNil}
	}
	return r.fault
}

// item reads what all items have in common; the rest of it tells the item at an offset, and the offset after it, or why there is none.
func item[T any](r *Reader, rest func(b []byte, at int) (T, int, api.Fault)) (value T) {
	if r.trouble() != nil {
		return
	}
	found, to, fault := rest(r.all, r.at)
	if fault.Err != api.OK {
		r.fault = &fault
		return
	}
	r.at = to
	return found
}
