package bank

import (
	"distraint/api"
	"distraint/codec"
)

// Bytes tells the encoding of a bank.
func Bytes(b api.Bank) ([]byte, api.Errno) {
	if err := Check(b); err != api.OK {
		return nil, err
	}
	w, err := codec.NewWriter(api.MaxWrite)
	if err != api.OK {
		return nil, err
	}
	w.N(len(b.Liquid))
	for _, l := range [][]uint64{b.Liquid, b.Pools[:]} {
		for _, n := range l {
			w.U(n)
		}
	}
	return w.Done()
}

// Read tells the bank that b encodes. Behind a fault the reader reads zero values, and keeps that fault.
func Read(b []byte) (api.Bank, api.Fault) {
	r := codec.NewReader(b)
	read := api.Bank{Liquid: make([]uint64, r.N(1, api.MaxAccounts))}
	for _, l := range [][]uint64{read.Liquid, read.Pools[:]} {
		for i := range l {
			l[i] = r.U()
		}
	}
	if fault := r.End(); fault.Err != api.OK {
		return api.Bank{}, fault
	}
	if err := Check(read); err != api.OK {
		return api.Bank{}, api.Fault{Err: err}
	}
	return read, api.Fault{}
}
