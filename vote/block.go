package vote

import (
	"distraint/api"
	"distraint/codec"
)

// CheckBlock tells why a proposal is not valid, or OK.
func CheckBlock(p api.Proposal) api.Errno {
	return within(
		bounds{p.Validator, 0, lastValidator},
		bounds{p.Height, 1, api.MaxHeight},
	)
}

// BytesBlock tells the encoding of a proposal.
func BytesBlock(p api.Proposal) ([]byte, api.Errno) { return encode(proposed(p), tagged(p.Tag)) }

// ReadBlock tells the proposal that b encodes.
func ReadBlock(b []byte) (p api.Proposal, fault api.Fault) {
	defer func() {
		if fault.Err != api.OK {
			p = api.Proposal{}
		}
	}()
	r := codec.NewReader(b)
	r.N(api.VotePropose, api.VotePropose)
	p.Validator = r.N(0, lastValidator)
	p.Height = r.N(1, api.MaxHeight)
	p.Root = r.Hash()
	p.Tag = r.U()
	return p, r.End()
}

// DigestBlock tells the hash of what a proposal says, whatever its tag is.
func DigestBlock(p api.Proposal) (api.Hash, api.Errno) { return digest(proposed(p)) }

// DoublesBlock tells whether two proposals are a validator's different votes for one height.
func DoublesBlock(p, q api.Proposal) bool {
	return p.Validator == q.Validator && p.Height == q.Height && differ(p, q, DigestBlock)
}

// proposed lists what writes a proposal without its tag.
func proposed(p api.Proposal) list {
	return func(w *codec.Writer) []write {
		return []write{
			func() api.Errno { return CheckBlock(p) },
			func() api.Errno { return w.N(api.VotePropose) },
			func() api.Errno { return w.N(p.Validator) },
			func() api.Errno { return w.N(p.Height) },
			func() api.Errno { return w.Hash(p.Root) },
		}
	}
}
