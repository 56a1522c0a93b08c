package holding

import (
	"distraint/api"
	"distraint/codec"
	"distraint/stamp"
)

// Bytes tells the encoding of a holding. A valid one has at most MaxPositions positions, as each account has at most one in each class; so only the bytes may be too many, which the writer tells.
func Bytes(h api.Holding) ([]byte, api.Errno) {
	if err := Check(h); err != api.OK {
		return nil, err
	}
	w, err := codec.NewWriter(api.MaxWrite)
	if err != api.OK {
		return nil, err
	}
	w.N(len(h.Classes))
	for _, c := range h.Classes {
		stamp.Put(w, c.Stamp)
		w.U(c.Pool.Tokens)
		w.U(c.Pool.Shares)
	}
	w.N(len(h.Positions))
	for _, p := range h.Positions {
		w.N(p.Owner)
		stamp.Put(w, p.Stamp)
		w.U(p.Shares)
	}
	return w.Done()
}

// Read tells the holding that b encodes.
func Read(b []byte) (api.Holding, api.Fault) {
	r := codec.NewReader(b)
	var h api.Holding
	h.Classes = list(r, api.MaxClasses, takeClass, checkClass)
	h.Positions = list(r, api.MaxPositions, takePosition, checkOrder)
	if fault := r.End(); fault.Err != api.OK {
		return api.Holding{}, fault
	}
	if err := Check(h); err != api.OK {
		return api.Holding{}, api.Fault{Err: err}
	}
	return h, api.Fault{}
}

// list reads at most so many items, with their number ahead of them. What check tells of an item behind those ahead of it is found at its first byte. After a fault nothing more is read.
func list[T any](r *codec.Reader, most int, take func(*codec.Reader) T, check func(ahead []T, x T) api.Errno) (l []T) {
	for range r.N(0, most) {
		at := r.At()
		x := take(r)
		r.Fail(check(l, x), at)
		if isFaulty(r) {
			return nil
		}
		l = append(l, x)
	}
	return l
}

// isFaulty tells whether a reader has a fault. End alone does not tell, as its fault may be that bytes are left.
func isFaulty(r *codec.Reader) bool { return r.Left() == 0 && r.End().Err != api.OK }

func takeClass(r *codec.Reader) api.Class {
	s := stamp.Take(r)
	return api.Class{Stamp: s, Pool: api.Pool{Tokens: r.U(), Shares: r.U()}}
}

func takePosition(r *codec.Reader) api.Position {
	owner := r.N(0, api.MaxAccounts-1)
	s := stamp.Take(r)
	return api.Position{Owner: owner, Stamp: s, Shares: r.U()}
}

// checkOrder tells why a position may not be the next one behind these, or OK, as far as its place goes: all else is told of the holding as a whole.
func checkOrder(ahead []api.Position, p api.Position) api.Errno {
	if !follows(ahead, p, byOwner) {
		return api.ErrOrder
	}
	return api.OK
}
