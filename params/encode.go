package params

import (
	"distraint/api"
	"distraint/codec"
)

// Bytes tells the encoding of params.
func Bytes(p api.Params) ([]byte, api.Errno) {
	if err, _ := Check(p); err != api.OK {
		return nil, err
	}
	var b []byte
	for _, f := range fields(&p) {
		b = append(b, codec.Put(f.get())...)
	}
	return b, api.OK
}

// Read tells the params that b encodes. Behind a fault the reader reads zero values, and keeps that fault.
func Read(b []byte) (api.Params, api.Fault) {
	var p api.Params
	r := codec.NewReader(b)
	for _, f := range fields(&p) {
		at := r.At()
		f.set(uint64(r.N(int(f.least), int(f.most))))
		if !ordered(p) {
			r.Fail(api.ErrOrder, at)
		}
	}
	if fault := r.End(); fault.Err != api.OK {
		return api.Params{}, fault
	}
	return p, api.Fault{}
}
