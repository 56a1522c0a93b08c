package message_test

import (
	"bytes"
	"math"
	"slices"
	"testing"

	"distraint/api"
	"distraint/message"
	"distraint/vote"
)

// noKinds are numbers of no kind.
func noKinds() []int {
	return []int{math.MinInt, math.MinInt + 8, -1 << 32, -8, -1, 0, 12, 13, 1<<8 + 1, 1<<32 + 8, math.MaxInt}
}

// noProofs are numbers of no proof.
func noProofs() []int {
	return []int{math.MinInt, math.MinInt + 1, -1, 0, 4, 5, 1<<8 + 1, 1<<32 + 3, math.MaxInt}
}

// TestNames: P6.1: the names in the order of the kinds, in memory that is new.
func TestNames(t *testing.T) {
	want := []string{"transfer", "create", "delegate", "undelegate", "redelegate", "attest", "propose", "evidence", "unjail", "claim", "tick"}
	first := message.Names()
	if !slices.Equal(first, want) {
		t.Errorf("Names: %v; want %v", first, want)
	}
	for i := range first {
		first[i] = "?"
	}
	if again := message.Names(); !slices.Equal(again, want) {
		t.Errorf("Names: %v, after others were overwritten; want %v", again, want)
	}
	for _, s := range shapes() {
		if name := want[s.kind-1]; name != s.name {
			t.Errorf("the kind %d is %s; want %s", s.kind, s.name, name)
		}
	}
}

// TestEncodes: P6.1 and P6.2, of valid messages of all kinds, at each edge.
func TestEncodes(t *testing.T) {
	for _, s := range shapes() {
		for _, l := range s.variants() {
			m, want := s.message(l), s.bytes(l)
			if err := message.Check(m); err != api.OK {
				t.Errorf("Check(%v): %v", m, err)
			}
			b, err := message.Bytes(m)
			if !bytes.Equal(b, want) || err != api.OK {
				t.Errorf("Bytes(%v): % x, %v; want % x", m, b, err, want)
			}
			clear(b[:cap(b)])
			if again, err := message.Bytes(m); !bytes.Equal(again, want) || err != api.OK {
				t.Errorf("Bytes(%v): % x, %v, after others were overwritten; want % x", m, again, err, want)
			}
		}
	}
}

// TestEncodesVotes: P6.2: a vote is written as layer 4 does.
func TestEncodesVotes(t *testing.T) {
	a := api.Attestation{Validator: 31, Source: 300, Target: 2, Root: root(5), Tag: math.MaxUint64}
	b := api.Attestation{Validator: 1, Source: 1 << 32, Root: root(9)}
	p := api.Proposal{Validator: 7, Height: 1 << 32, Root: root(6), Tag: 128}
	q := api.Proposal{Height: 1, Root: root(7)}
	bytesOf := func(b []byte, err api.Errno) []byte {
		if err != api.OK {
			t.Fatal(err)
		}
		return b
	}
	first, second := bytesOf(vote.Bytes(a)), bytesOf(vote.Bytes(b))
	third, fourth := bytesOf(vote.BytesBlock(p)), bytesOf(vote.BytesBlock(q))
	for _, x := range []struct {
		m    api.Message
		want [][]byte
	}{
		{api.Message{Kind: 6, From: 63, A: a}, [][]byte{{6, 63}, first}},
		{api.Message{Kind: 7, From: 63, P: p}, [][]byte{{7, 63}, third}},
		{api.Message{Kind: 8, From: 63, Proof: 1, A: a, B: b}, [][]byte{{8, 63, 1}, first, second}},
		{api.Message{Kind: 8, From: 63, Proof: 2, A: b, B: a}, [][]byte{{8, 63, 2}, second, first}},
		{api.Message{Kind: 8, From: 63, Proof: 3, P: p, Q: q}, [][]byte{{8, 63, 3}, third, fourth}},
	} {
		if is := bytesOf(message.Bytes(x.m)); !bytes.Equal(is, slices.Concat(x.want...)) {
			t.Errorf("Bytes(%v): % x; want % x", x.m, is, x.want)
		}
	}
}

// TestRefusesKinds: P6.1: a Kind or a Proof that is none comes before all else.
func TestRefusesKinds(t *testing.T) {
	for _, s := range shapes() {
		for _, l := range s.variants()[:3] {
			m := s.message(l)
			crowded := api.Message{From: 64, To: -1, N: -5, Stamp: api.Stamp{Prior: 40}, A: m.A, Q: api.Proposal{Validator: 32}}
			for _, kind := range noKinds() {
				m.Kind, crowded.Kind = kind, kind
				refused(t, m, api.ErrForm)
				refused(t, crowded, api.ErrForm)
				refused(t, api.Message{Kind: kind}, api.ErrForm)
			}
			if m.Kind, crowded.Kind = 8, 8; s.kind != 8 {
				continue
			}
			for _, proof := range noProofs() {
				m.Proof, crowded.Proof = proof, proof
				refused(t, m, api.ErrForm)
				refused(t, crowded, api.ErrForm)
				refused(t, api.Message{Kind: 8, Proof: proof}, api.ErrForm)
			}
		}
	}
}

// beyond are what a field with a number has out of its bounds, just and far.
func (x item) beyond() []int {
	least, most := int(x.least-x.more), int(x.most-x.more)
	l := []int{math.MinInt, math.MinInt + 1, -1 << 32, least - 1, most + 1, most + 2, most + 1<<32, most + 1<<33, math.MaxInt - 1, math.MaxInt}
	if least > 0 {
		l = append(l, -1)
	}
	return l
}

// bounded tells whether a field of the shape has bounds that its Kind and its Proof do not settle.
func (x item) bounded() bool { return !x.fixed() && x.most < math.MaxUint64 }

// TestRefusesBeyond: P6.1: each field out of its bounds, alone and together with a foreign field that is not zero.
func TestRefusesBeyond(t *testing.T) {
	for _, s := range shapes() {
		for i, x := range s.items {
			if !x.bounded() {
				continue
			}
			for _, n := range x.beyond() {
				for _, l := range s.variants()[:3] {
					m := s.message(l)
					set(places(&m)[x.field], uint64(n))
					refused(t, m, api.ErrRange)
					for _, field := range s.foreign() {
						crowded := m
						set(places(&crowded)[field], uint64(i+1))
						refused(t, crowded, api.ErrRange)
					}
				}
			}
		}
	}
}

// TestRefusesForeign: P6.1: each field that is not the kind's, be it within the bounds of such a field or not; all of them too.
func TestRefusesForeign(t *testing.T) {
	for _, s := range shapes() {
		for _, l := range s.variants()[:3] {
			all := s.message(l)
			for _, field := range s.foreign() {
				for _, n := range []uint64{1, 2, 5, 1000, 1 << 8, 1 << 32, 1<<32 + 1, 1 << 63, math.MaxUint64 - 1, math.MaxUint64} {
					m := s.message(l)
					set(places(&m)[field], n)
					refused(t, m, api.ErrArg)
				}
				set(places(&all)[field], 1)
			}
			refused(t, all, api.ErrArg)
		}
	}
}

// TestRefusesForeignRoots: P6.1: each bit of a root that is foreign.
func TestRefusesForeignRoots(t *testing.T) {
	for bit := range 256 {
		set := func(h *api.Hash) { h[bit/8] = 1 << (bit % 8) }
		one := api.Proposal{Height: 1}
		for _, m := range []api.Message{{Kind: 10}, {Kind: 11, N: 1}, {Kind: 8, Proof: 3, P: one, Q: one}} {
			a, b := m, m
			set(&a.A.Root)
			set(&b.B.Root)
			refused(t, a, api.ErrArg)
			refused(t, b, api.ErrArg)
		}
		for _, m := range []api.Message{{Kind: 6}, {Kind: 9}, {Kind: 8, Proof: 1}, {Kind: 8, Proof: 2}} {
			p, q := m, m
			set(&p.P.Root)
			set(&q.Q.Root)
			refused(t, p, api.ErrArg)
			refused(t, q, api.ErrArg)
		}
	}
}

// TestForeignVotes: P6.1: votes that are not the kind's are foreign as wholes: valid or not.
func TestForeignVotes(t *testing.T) {
	one, two := api.Proposal{Validator: 32}, api.Proposal{Height: 1}
	for _, m := range []api.Message{
		{Kind: 6, P: two}, {Kind: 6, B: api.Attestation{Source: -1}}, {Kind: 7, P: two, Q: one}, {Kind: 7, P: two, A: api.Attestation{Tag: 1}},
		{Kind: 8, Proof: 1, P: one}, {Kind: 8, Proof: 2, Q: one}, {Kind: 8, Proof: 3, P: two, Q: two, B: api.Attestation{Validator: -1}},
	} {
		refused(t, m, api.ErrArg)
	}
	// Proofs by proposals need both; zero attestations are valid, zero proposals are not.
	for _, m := range []api.Message{{Kind: 7}, {Kind: 8, Proof: 3}, {Kind: 8, Proof: 3, P: two}, {Kind: 8, Proof: 3, Q: two}} {
		refused(t, m, api.ErrRange)
	}
}

// TestActor: P6.1: a message need not be valid to have an actor.
func TestActor(t *testing.T) {
	for _, from := range []int{math.MinInt, -1, 0, 1, 63, 64, math.MaxInt} {
		for kind := 1; kind <= 10; kind++ {
			for _, m := range []api.Message{{Kind: kind, From: from}, {Kind: kind, From: from, N: 7, To: -9, Proof: 4, Stamp: api.Stamp{From: 5}}} {
				if n, ok := message.Actor(m); n != from || !ok {
					t.Errorf("Actor(%v): %d, %t", m, n, ok)
				}
			}
		}
		for _, kind := range append(noKinds(), 11) {
			if n, ok := message.Actor(api.Message{Kind: kind, From: from, N: 5}); n != 0 || ok {
				t.Errorf("Actor of the kind %d from %d: %d, %t", kind, from, n, ok)
			}
		}
	}
}

// TestExamples: the chapter's table, but for scripts.
func TestExamples(t *testing.T) {
	lot, moved := api.Stamp{Validator: 1, Since: 7, Prior: -1}, api.Stamp{Validator: 1, Since: 7, Prior: 3, From: 4}
	p := api.Proposal{Validator: 1, Height: 4}
	nothing := make([]byte, 32)
	for _, x := range []struct {
		m    api.Message
		want []byte
	}{
		{api.Message{Kind: api.MsgTransfer, From: 2, To: 3, Amount: 300}, []byte{1, 2, 3, 0xac, 2}},
		{api.Message{Kind: api.MsgCreate, From: 5, MinSelf: 1, Amount: 200}, []byte{2, 5, 1, 0xc8, 1}},
		{api.Message{Kind: api.MsgDelegate, From: 2, Validator: 1, Amount: 5}, []byte{3, 2, 1, 5}},
		{api.Message{Kind: api.MsgUndelegate, From: 2, Stamp: lot, Amount: 9}, []byte{4, 2, 1, 7, 0, 0, 9}},
		{api.Message{Kind: api.MsgRedelegate, From: 2, Stamp: moved, Amount: 9}, []byte{5, 2, 1, 7, 4, 4, 9, 0}},
		{api.Message{Kind: api.MsgUnjail, From: 2, Validator: 1}, []byte{9, 2, 1}},
		{api.Message{Kind: api.MsgClaim, From: 2}, []byte{10, 2}},
		{api.Message{Kind: api.MsgTick, N: 5}, []byte{11, 5}},
		{api.Message{Kind: api.MsgAttest, From: 2, A: api.Attestation{Validator: 1, Target: 3}}, slices.Concat([]byte{6, 2, 1, 1, 0, 3}, nothing, []byte{0})},
		{api.Message{Kind: api.MsgEvidence, From: 2, Proof: api.EvidencePropose, P: p, Q: p}, slices.Concat([]byte{8, 2, 3, 2, 1, 4}, nothing, []byte{0, 2, 1, 4}, nothing, []byte{0})},
	} {
		if b, err := message.Bytes(x.m); !bytes.Equal(b, x.want) || err != api.OK {
			t.Errorf("Bytes(%v): % x, %v; want % x", x.m, b, err, x.want)
		}
		if m, fault := message.Read(x.want); m != x.m || fault != (api.Fault{}) {
			t.Errorf("Read(% x): %v, %v; want %v", x.want, m, fault, x.m)
		}
		if n := len(x.want); x.m.Kind == api.MsgAttest && n != 39 || x.m.Kind == api.MsgEvidence && n != 75 {
			t.Errorf("%v has %d bytes", x.m, n)
		}
	}
	refused(t, api.Message{Kind: 12}, api.ErrForm)
	refused(t, api.Message{Kind: api.MsgClaim, From: 64}, api.ErrRange)
	refused(t, api.Message{Kind: api.MsgClaim, From: 2, To: 1}, api.ErrArg)
	refused(t, api.Message{Kind: api.MsgEvidence, Proof: 4}, api.ErrForm)
	if n, ok := message.Actor(api.Message{Kind: api.MsgTick, From: 3, N: 5}); n != 0 || ok {
		t.Errorf("Actor of a tick: %d, %t", n, ok)
	}
	unread(t, []byte{0x0c}, api.ErrRange, 0)
	unread(t, []byte{0x0a}, api.ErrShort, 1)
	unread(t, []byte{0x0a, 0x02, 0x00}, api.ErrLong, 2)
	unread(t, []byte{0x04, 0x02, 0x20}, api.ErrRange, 2)
	unread(t, []byte{0x0b, 0x00}, api.ErrRange, 1)
}
