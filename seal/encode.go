package seal

import (
	"distraint/api"
	"distraint/codec"
)

// Bytes tells the encoding of a table.
func Bytes(l []api.Seal) ([]byte, api.Errno) {
	if err, _ := Check(l); err != api.OK {
		return nil, err
	}
	w, err := codec.NewWriter(api.MaxWrite)
	if err != api.OK {
		return nil, err
	}
	w.N(len(l))
	for _, x := range l {
		w.N(x.Validator)
		w.Hash(x.Digest)
		w.U(x.Tag)
	}
	return w.Done()
}

// Read tells the table that b encodes. Behind a fault the reader reads zero values, and keeps that fault.
func Read(b []byte) ([]api.Seal, api.Fault) {
	var l []api.Seal
	r := codec.NewReader(b)
	for i := range r.N(0, api.MaxSeals) {
		at := r.At()
		l = append(l, api.Seal{Validator: r.N(0, lastValidator), Digest: r.Hash(), Tag: r.U()})
		if i > 0 && Compare(l[i-1], l[i]) >= 0 {
			r.Fail(api.ErrOrder, at)
		}
	}
	if fault := r.End(); fault.Err != api.OK {
		return nil, fault
	}
	return l, api.Fault{}
}
