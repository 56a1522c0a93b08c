package codec

import (
	"bytes"

	"distraint/api"
)

// Writer is bytes that are written, up to a limit. NewWriter makes it.
type Writer struct {
	// self is the writer itself: in a zero one, and in a copy, which would share its bytes, it is not.
	self    *Writer
	limit   int
	written []byte
	err     api.Errno
}

// NewWriter makes a writer of at most limit bytes.
func NewWriter(limit int) (*Writer, api.Errno) {
	if limit < 0 || limit > api.MaxWrite {
		return nil, api.ErrRange
	}
	w := &Writer{limit: limit}
	w.self = w
	return w, api.OK
}

// U writes a number.
func (w *Writer) U(n uint64) api.Errno { return w.write(Put(n)) }

// N writes a number that is not negative.
func (w *Writer) N(n int) api.Errno {
	if err := w.state(); err != api.OK {
		return err
	}
	if n < 0 {
		return w.fail(api.ErrRange)
	}
	return w.U(uint64(n))
}

// Hash writes a hash.
func (w *Writer) Hash(h api.Hash) api.Errno { return w.write(h[:]) }

// Blob writes a byte string.
func (w *Writer) Blob(b []byte) api.Errno { return w.write(Put(uint64(len(b))), b) }

// Done tells all that was written. It ends nothing: the writer may go on.
func (w *Writer) Done() ([]byte, api.Errno) {
	if err := w.state(); err != api.OK {
		return nil, err
	}
	return bytes.Clone(w.written), api.OK
}

// state tells why nothing can be written to w, or OK.
func (w *Writer) state() api.Errno {
	if w == nil || w.self != w {
		return api.ErrNil
	}
	return w.err
}

// write appends the parts of one item.
func (w *Writer) write(parts ...[]byte) api.Errno {
	if err := w.state(); err != api.OK {
		return err
	}
	for _, part := range parts {
		if len(part) > w.limit-len(w.written) {
			return w.fail(api.ErrLong)
		}
		w.written = append(w.written, part...)
	}
	return api.OK
}

// fail gives w its error, with which what was written is never told: neither is a part of an item that did not fit.
func (w *Writer) fail(err api.Errno) api.Errno {
	w.err, w.written = err, nil
	return err
}
