package hop

import (
	"distraint/api"
	"distraint/codec"
)

// Bytes tells the encoding of a list.
func Bytes(l []api.Hop) ([]byte, api.Errno) {
	if err, _ := Check(l); err != api.OK {
		return nil, err
	}
	w, err := codec.NewWriter(api.MaxWrite)
	if err != api.OK {
		return nil, err
	}
	// A writer keeps its first error, which Done tells.
	w.N(len(l))
	for _, x := range l {
		w.N(x.Owner)
		w.N(x.Src)
		w.N(x.Dst)
		w.N(x.Created)
	}
	return w.Done()
}

// Read tells the list that b encodes.
func Read(b []byte) ([]api.Hop, api.Fault) {
	r := codec.NewReader(b)
	var l []api.Hop
	before := 0
	// With a fault a reader reads zeros, so that what follows it is none of the list; End tells the fault.
	for range r.N(0, api.MaxHops) {
		x := take(r, before)
		before = x.Created
		l = append(l, x)
	}
	if fault := r.End(); fault.Err != api.OK {
		return nil, fault
	}
	return l, api.Fault{}
}

// take reads a hop behind one that was created at before.
func take(r *codec.Reader, before int) (x api.Hop) {
	x.Owner = r.N(0, api.MaxAccounts-1)
	x.Src = r.N(0, api.MaxValidators-1)
	at := r.At()
	x.Dst = r.N(0, api.MaxValidators-1)
	if x.Dst == x.Src {
		r.Fail(api.ErrRange, at)
	}
	at = r.At()
	x.Created = r.N(1, api.MaxHeight)
	if x.Created < before {
		r.Fail(api.ErrOrder, at)
	}
	return x
}
