package roster

import (
	"distraint/api"
	"distraint/codec"
)

// What the two flags come to in the encoding.
const (
	attest  = 1
	propose = 2
)

// Bytes tells the encoding of a roster.
func Bytes(l []api.Validator) ([]byte, api.Errno) {
	if err, _ := Check(l); err != api.OK {
		return nil, err
	}
	w, err := codec.NewWriter(api.MaxWrite)
	if err != api.OK {
		return nil, err
	}
	// A writer keeps its first error, which Done tells.
	w.N(len(l))
	for _, x := range l {
		w.N(x.Operator)
		w.U(x.MinSelf)
		w.N(x.Status)
		w.N(x.Until)
		w.N(flags(x))
	}
	return w.Done()
}

// flags tells a validator's flags as a number.
func flags(x api.Validator) (n int) {
	if x.Attest {
		n += attest
	}
	if x.Propose {
		n += propose
	}
	return n
}

// Read tells the roster that b encodes.
func Read(b []byte) ([]api.Validator, api.Fault) {
	r := codec.NewReader(b)
	var l []api.Validator
	// With a fault a reader reads zeros, and keeps that fault, whatever Check tells of these; OK is none. End tells it.
	for range r.N(0, api.MaxValidators) {
		at := r.At()
		l = append(l, take(r))
		err, _ := Check(l)
		r.Fail(err, at)
	}
	if fault := r.End(); fault.Err != api.OK {
		return nil, fault
	}
	return l, api.Fault{}
}

// take reads a validator.
func take(r *codec.Reader) (x api.Validator) {
	x.Operator = r.N(0, api.MaxAccounts-1)
	x.MinSelf = r.U()
	x.Status = r.N(api.StatusIdle, api.StatusTomb)
	x.Until = r.N(0, api.MaxUntil)
	n := r.N(0, attest+propose)
	x.Attest, x.Propose = n&attest != 0, n&propose != 0
	return x
}
