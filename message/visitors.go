package message

import (
	"distraint/api"
	"distraint/codec"
	"distraint/vote"
)

// refusal is the error with which a checker ends its visit.
type refusal api.Errno

// checker tells what stands in each field, as long as all of it is within its bounds.
type checker struct{}

func (checker) number(n, least, most int) int {
	if !within(n, least, most) {
		refuse(api.ErrRange)
	}
	return n
}

func (checker) amount(n uint64) uint64 { return n }

func (checker) attestation(a api.Attestation) api.Attestation {
	refuse(vote.Check(a))
	return a
}

func (checker) proposal(p api.Proposal) api.Proposal {
	refuse(vote.CheckBlock(p))
	return p
}

// refuse ends the visit if there is an error.
func refuse(err api.Errno) {
	if err != api.OK {
		panic(refusal(err))
	}
}

// writer writes what stands in each field of a message that was checked: so its votes have bytes.
type writer struct{ written []byte }

func (w *writer) number(n, _, _ int) int {
	w.write(codec.Put(uint64(n)))
	return n
}

func (w *writer) amount(n uint64) uint64 {
	w.write(codec.Put(n))
	return n
}

func (w *writer) attestation(a api.Attestation) api.Attestation {
	b, _ := vote.Bytes(a)
	w.write(b)
	return a
}

func (w *writer) proposal(p api.Proposal) api.Proposal {
	b, _ := vote.BytesBlock(p)
	w.write(b)
	return p
}

func (w *writer) write(b []byte) { w.written = append(w.written, b...) }

// reader tells what it reads, whatever stands in the fields. It reads votes item by item, as their bytes need not be the last ones. Behind a fault it tells zero values.
type reader struct{ *codec.Reader }

func (r reader) number(_, least, most int) int { return r.N(least, most) }

func (r reader) amount(uint64) uint64 { return r.U() }

func (r reader) attestation(api.Attestation) api.Attestation {
	r.N(api.VoteAttest, api.VoteAttest)
	return api.Attestation{
		Validator: r.N(0, lastValidator),
		Source:    r.N(0, api.MaxEpoch),
		Target:    r.N(0, api.MaxEpoch),
		Root:      r.Hash(),
		Tag:       r.U(),
	}
}

func (r reader) proposal(api.Proposal) api.Proposal {
	r.N(api.VotePropose, api.VotePropose)
	return api.Proposal{
		Validator: r.N(0, lastValidator),
		Height:    r.N(1, api.MaxHeight),
		Root:      r.Hash(),
		Tag:       r.U(),
	}
}
