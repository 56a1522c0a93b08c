package stamp

import (
	"distraint/api"
	"distraint/codec"
)

// Bytes tells the encoding of a stamp.
func Bytes(s api.Stamp) ([]byte, api.Errno) {
	w, err := codec.NewWriter(api.MaxWrite)
	if err != api.OK {
		return nil, err
	}
	if err := Put(w, s); err != api.OK {
		return nil, err
	}
	return w.Done()
}

// Put writes a stamp, unless it is not valid: then w stays as it is.
func Put(w *codec.Writer, s api.Stamp) api.Errno {
	if err := Check(s); err != api.OK {
		return refusal(w, err)
	}
	// A writer keeps its first error, so the last number's is that of all four.
	w.N(s.Validator)
	w.N(s.Since)
	w.N(s.Prior + 1)
	return w.N(s.From)
}

// refusal tells that a writer is not valid, or else a stamp's error. Done alone tells this without writing, but copies all that was written: so it is asked for a refused stamp only.
func refusal(w *codec.Writer, err api.Errno) api.Errno {
	if _, invalid := w.Done(); invalid == api.ErrNil {
		return api.ErrNil
	}
	return err
}

// Take reads a stamp; what is wrong with its numbers together is found at its first byte.
func Take(r *codec.Reader) api.Stamp {
	var s api.Stamp
	at := r.At()
	s.Validator = r.N(0, lastValidator)
	s.Since = r.N(1, api.MaxHeight)
	s.Prior = r.N(0, api.MaxValidators) - 1
	s.From = r.N(0, api.MaxHeight)
	r.Fail(Check(s), at)
	if faulty(r) {
		return api.Stamp{}
	}
	return s
}

// faulty tells whether a reader has a fault or is not valid. End alone does not tell, as its fault may be that bytes are left.
func faulty(r *codec.Reader) bool {
	return r.Left() == 0 && r.End().Err != api.OK
}

// Read tells the stamp that b encodes.
func Read(b []byte) (api.Stamp, api.Fault) {
	r := codec.NewReader(b)
	s := Take(r)
	if fault := r.End(); fault.Err != api.OK {
		return api.Stamp{}, fault
	}
	return s, api.Fault{}
}
