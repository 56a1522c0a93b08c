package queue

import (
	"distraint/api"
	"distraint/codec"
	"distraint/stamp"
)

// Bytes tells the encoding of a queue.
func Bytes(l []api.Entry) ([]byte, api.Errno) {
	if err, _ := Check(l); err != api.OK {
		return nil, err
	}
	w, err := codec.NewWriter(api.MaxWrite)
	if err != api.OK {
		return nil, err
	}
	// A writer keeps its first error, which Done tells.
	w.N(len(l))
	for _, x := range l {
		w.N(x.Owner)
		stamp.Put(w, x.Stamp)
		w.N(x.Created)
		w.U(x.Initial)
		w.U(x.Balance)
	}
	return w.Done()
}

// Read tells the queue that b encodes.
func Read(b []byte) ([]api.Entry, api.Fault) {
	r := codec.NewReader(b)
	l := entries(r)
	if fault := r.End(); fault.Err != api.OK {
		return nil, fault
	}
	if balances(l) > api.MaxSupply {
		return nil, api.Fault{Err: api.ErrOver}
	}
	return l, api.Fault{}
}

// entries reads entries, with their number ahead of them. What is wrong with one behind those ahead of it is found at its first byte. After a fault nothing more is read.
func entries(r *codec.Reader) (l []api.Entry) {
	for range r.N(0, api.MaxQueue) {
		at := r.At()
		x := entry(r)
		r.Fail(flaw(l, x), at)
		if isFaulty(r) {
			return nil
		}
		l = append(l, x)
	}
	return l
}

func entry(r *codec.Reader) (x api.Entry) {
	x.Owner = r.N(0, api.MaxAccounts-1)
	x.Stamp = stamp.Take(r)
	x.Created = r.N(1, api.MaxHeight)
	x.Initial = r.U()
	x.Balance = r.U()
	return x
}

// isFaulty tells whether a reader has a fault. End alone does not tell, as its fault may be that bytes are left.
func isFaulty(r *codec.Reader) bool { return r.Left() == 0 && r.End().Err != api.OK }
