package message

import (
	"distraint/api"
	"distraint/codec"
)

// Pack tells the encoding of a script.
func Pack(l [][]byte) ([]byte, api.Errno) {
	if len(l) > api.MaxScript {
		return nil, api.ErrLong
	}
	w, err := codec.NewWriter(api.MaxWrite)
	if err != api.OK {
		return nil, err
	}
	w.N(len(l))
	for _, b := range l {
		if len(b) > api.MaxBytes {
			return nil, api.ErrLong
		}
		w.Blob(b)
	}
	return w.Done()
}

// Unpack tells the script that b encodes. Behind a fault the reader reads zero values, and keeps that fault.
func Unpack(b []byte) ([][]byte, api.Fault) {
	if len(b) > api.MaxWrite {
		return nil, api.Fault{Err: api.ErrLong, At: api.MaxWrite}
	}
	var l [][]byte
	r := codec.NewReader(b)
	for range r.N(0, api.MaxScript) {
		l = append(l, r.Blob(api.MaxBytes))
	}
	if fault := r.End(); fault.Err != api.OK {
		return nil, fault
	}
	return l, api.Fault{}
}
