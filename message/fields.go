package message

import "distraint/api"

const (
	lastKind      = api.MsgTick
	lastProof     = api.EvidencePropose
	lastAccount   = api.MaxAccounts - 1
	lastValidator = api.MaxValidators - 1
)

// A visitor is shown what stands in each field of a message, in their order, and tells what is to stand there.
type visitor interface {
	number(n, least, most int) int
	amount(n uint64) uint64
	attestation(a api.Attestation) api.Attestation
	proposal(p api.Proposal) api.Proposal
}

// fields is a message with a method for each kind, which shows a visitor the fields of that kind, and tells a message that has what the visitor tells, and nothing else.
type fields api.Message

// kinds tells the methods of all kinds. Where a reader finds no kind it tells 0: then nothing is to be visited.
func kinds() [lastKind + 1]func(fields, visitor) fields {
	return [...]func(fields, visitor) fields{
		0:                 fields.none,
		api.MsgTransfer:   fields.transfer,
		api.MsgCreate:     fields.create,
		api.MsgDelegate:   fields.delegate,
		api.MsgUndelegate: fields.undelegate,
		api.MsgRedelegate: fields.redelegate,
		api.MsgAttest:     fields.attest,
		api.MsgPropose:    fields.propose,
		api.MsgEvidence:   fields.evidence,
		api.MsgUnjail:     fields.unjail,
		api.MsgClaim:      fields.claim,
		api.MsgTick:       fields.tick,
	}
}

// visit shows v the kind, and then the fields of that kind.
func (m fields) visit(v visitor) fields {
	kind := v.number(m.Kind, 1, lastKind)
	only := kinds()[kind](m, v)
	only.Kind = kind
	return only
}

func (m fields) none(visitor) fields { return fields{} }

func (m fields) transfer(v visitor) fields {
	return fields{From: account(v, m.From), To: account(v, m.To), Amount: v.amount(m.Amount)}
}

func (m fields) create(v visitor) fields {
	return fields{From: account(v, m.From), MinSelf: v.amount(m.MinSelf), Amount: v.amount(m.Amount)}
}

func (m fields) delegate(v visitor) fields {
	return fields{From: account(v, m.From), Validator: validator(v, m.Validator), Amount: v.amount(m.Amount)}
}

func (m fields) undelegate(v visitor) fields {
	return fields{From: account(v, m.From), Stamp: stamp(v, m.Stamp), Amount: v.amount(m.Amount)}
}

func (m fields) redelegate(v visitor) fields {
	only := m.undelegate(v)
	only.To = validator(v, m.To)
	return only
}

func (m fields) attest(v visitor) fields {
	return fields{From: account(v, m.From), A: v.attestation(m.A)}
}

func (m fields) propose(v visitor) fields {
	return fields{From: account(v, m.From), P: v.proposal(m.P)}
}

func (m fields) evidence(v visitor) fields {
	only := fields{From: account(v, m.From), Proof: v.number(m.Proof, 1, lastProof)}
	if only.Proof == api.EvidencePropose {
		only.P, only.Q = v.proposal(m.P), v.proposal(m.Q)
	} else {
		only.A, only.B = v.attestation(m.A), v.attestation(m.B)
	}
	return only
}

func (m fields) unjail(v visitor) fields {
	return fields{From: account(v, m.From), Validator: validator(v, m.Validator)}
}

func (m fields) claim(v visitor) fields { return fields{From: account(v, m.From)} }

func (m fields) tick(v visitor) fields { return fields{N: v.number(m.N, 1, api.MaxTicks)} }

func account(v visitor, n int) int   { return v.number(n, 0, lastAccount) }
func validator(v visitor, n int) int { return v.number(n, 0, lastValidator) }

// stamp shows Prior as it is written: greater by 1, as it may be -1. (If that is too much for an int, it wraps around to a number that is out of bounds as well, and back.)
func stamp(v visitor, s api.Stamp) api.Stamp {
	return api.Stamp{
		Validator: validator(v, s.Validator),
		Since:     v.number(s.Since, 1, api.MaxHeight),
		Prior:     v.number(s.Prior+1, 0, lastValidator+1) - 1,
		From:      v.number(s.From, 0, api.MaxHeight),
	}
}
