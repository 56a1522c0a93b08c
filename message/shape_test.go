package message_test

import (
	"encoding/binary"
	"math"
	"math/rand/v2"
	"slices"
	"strings"
	"testing"

	"distraint/api"
	"distraint/message"
)

// item is an item of an encoding: of which field it is (of none: it is the kind of a vote), the least and the most that is written, and by how much what is written is greater than what the field has.
type item struct {
	field             string
	least, most, more uint64
}

// shape is the items of the messages of a kind, and for evidence of a proof; it is named as the kind is.
type shape struct {
	name        string
	kind, proof int
	items       []item
}

func account(field string) item              { return item{field: field, most: 63} }
func validator(field string) item            { return item{field: field, most: 31} }
func amount(field string) item               { return item{field: field, most: math.MaxUint64} }
func height(field string, least uint64) item { return item{field: field, least: least, most: 1 << 32} }
func voteKind(kind uint64) item              { return item{least: kind, most: kind} }

func stamp() []item {
	return []item{validator("Stamp.Validator"), height("Stamp.Since", 1), {field: "Stamp.Prior", most: 32, more: 1}, height("Stamp.From", 0)}
}

// attestation is of the field A or B.
func attestation(field string) []item {
	return []item{voteKind(api.VoteAttest), validator(field + ".Validator"), height(field+".Source", 0), height(field+".Target", 0), amount(field + ".Root"), amount(field + ".Tag")}
}

// proposal is of the field P or Q.
func proposal(field string) []item {
	return []item{voteKind(api.VotePropose), validator(field + ".Validator"), height(field+".Height", 1), amount(field + ".Root"), amount(field + ".Tag")}
}

// shapes are the chapter's table.
func shapes() []shape {
	from, sum := []item{account("From")}, []item{amount("Amount")}
	of := func(name string, kind int, items ...[]item) shape {
		first := []item{{field: "Kind", least: 1, most: 11}}
		return shape{name, kind, 0, slices.Concat(first, slices.Concat(items...))}
	}
	proven := func(proof int, a, b []item) shape {
		s := of("evidence", 8, from, []item{{field: "Proof", least: 1, most: 3}}, a, b)
		s.proof = proof
		return s
	}
	return []shape{
		of("transfer", 1, from, []item{account("To")}, sum),
		of("create", 2, from, []item{amount("MinSelf")}, sum),
		of("delegate", 3, from, []item{validator("Validator")}, sum),
		of("undelegate", 4, from, stamp(), sum),
		of("redelegate", 5, from, stamp(), sum, []item{validator("To")}),
		of("attest", 6, from, attestation("A")),
		of("propose", 7, from, proposal("P")),
		proven(1, attestation("A"), attestation("B")),
		proven(2, attestation("A"), attestation("B")),
		proven(3, proposal("P"), proposal("Q")),
		of("unjail", 9, from, []item{validator("Validator")}),
		of("claim", 10, from),
		of("tick", 11, []item{{field: "N", least: 1, most: 1000}}),
	}
}

// places tells where each field of a message is, those inside of its Stamp and its votes too.
func places(m *api.Message) map[string]any {
	return map[string]any{
		"Kind": &m.Kind, "From": &m.From, "Validator": &m.Validator, "To": &m.To,
		"Amount": &m.Amount, "MinSelf": &m.MinSelf, "N": &m.N, "Proof": &m.Proof,
		"Stamp.Validator": &m.Stamp.Validator, "Stamp.Since": &m.Stamp.Since,
		"Stamp.Prior": &m.Stamp.Prior, "Stamp.From": &m.Stamp.From,
		"A.Validator": &m.A.Validator, "A.Source": &m.A.Source, "A.Target": &m.A.Target, "A.Root": &m.A.Root, "A.Tag": &m.A.Tag,
		"B.Validator": &m.B.Validator, "B.Source": &m.B.Source, "B.Target": &m.B.Target, "B.Root": &m.B.Root, "B.Tag": &m.B.Tag,
		"P.Validator": &m.P.Validator, "P.Height": &m.P.Height, "P.Root": &m.P.Root, "P.Tag": &m.P.Tag,
		"Q.Validator": &m.Q.Validator, "Q.Height": &m.Q.Height, "Q.Root": &m.Q.Root, "Q.Tag": &m.Q.Tag,
	}
}

// root tells a root for a number: as different as the numbers are, and in many bytes.
func root(n uint64) (h api.Hash) {
	for i := range 4 {
		binary.BigEndian.PutUint64(h[8*i:], n*uint64(3*i+1))
	}
	return h
}

// set gives a field what is written as n.
func set(place any, n uint64) {
	switch p := place.(type) {
	case *int:
		*p = int(n)
	case *uint64:
		*p = n
	case *api.Hash:
		*p = root(n)
	}
}

func number(n uint64) []byte { return binary.AppendUvarint(nil, n) }

func (x item) isRoot() bool { return strings.HasSuffix(x.field, ".Root") }

// encoded tells an item's bytes, by the library.
func (x item) encoded(n uint64) []byte {
	if h := root(n); x.isRoot() {
		return h[:]
	}
	return number(n)
}

// fixed tells whether only one number makes sense for the item: it says which items there are.
func (x item) fixed() bool { return x.field == "" || x.field == "Kind" || x.field == "Proof" }

// ordinary are numbers of which no two neighbours' are the same; the shape's own ones where they are fixed.
func (s shape) ordinary() (l []uint64) {
	for i, x := range s.items {
		n := x.least + (uint64(i)*1000+205)%(min(x.most-x.least, 1<<40)+1)
		switch x.field {
		case "Kind":
			n = uint64(s.kind)
		case "Proof":
			n = uint64(s.proof)
		}
		l = append(l, n)
	}
	return l
}

// edges are the ends of what an item may be, and those within around which an encoding grows.
func (x item) edges() (l []uint64) {
	for _, n := range []uint64{x.least, x.least + 1, 2, 127, 128, 300, 16383, 16384, 1<<31 - 1, 1 << 31, 1<<32 - 1, 1<<63 - 1, 1 << 63, x.most - 1, x.most} {
		if n >= x.least && n <= x.most {
			l = append(l, n)
		}
	}
	return l
}

// variants are the numbers of valid messages: ordinary ones, all at one end, one at each edge, and mixed ones.
func (s shape) variants() [][]uint64 {
	low, high := s.ordinary(), s.ordinary()
	for i, x := range s.items {
		if !x.fixed() {
			low[i], high[i] = x.least, x.most
		}
	}
	l := [][]uint64{s.ordinary(), low, high}
	for i, x := range s.items {
		if x.fixed() {
			continue
		}
		for _, n := range x.edges() {
			for _, base := range l[:3] {
				one := slices.Clone(base)
				one[i] = n
				l = append(l, one)
			}
		}
	}
	return append(l, s.mixed(60)...)
}

func (s shape) mixed(n int) (l [][]uint64) {
	r := rand.New(rand.NewPCG(6, uint64(s.kind)))
	for range n {
		one := s.ordinary()
		for i, x := range s.items {
			if edges := x.edges(); !x.fixed() {
				one[i] = edges[r.IntN(len(edges))]
			}
		}
		l = append(l, one)
	}
	return l
}

// message tells the message whose items are written as these numbers.
func (s shape) message(l []uint64) (m api.Message) {
	at := places(&m)
	for i, x := range s.items {
		if x.field != "" {
			set(at[x.field], l[i]-x.more)
		}
	}
	return m
}

// parts tells the items' bytes.
func (s shape) parts(l []uint64) (all [][]byte) {
	for i, x := range s.items {
		all = append(all, x.encoded(l[i]))
	}
	return all
}

func (s shape) bytes(l []uint64) []byte { return slices.Concat(s.parts(l)...) }

// foreign are the fields that are not the shape's.
func (s shape) foreign() (l []string) {
	for field := range places(&api.Message{}) {
		if !slices.ContainsFunc(s.items, func(x item) bool { return x.field == field }) {
			l = append(l, field)
		}
	}
	slices.Sort(l)
	return l
}

// refused: a message is refused by Check, and by Bytes.
func refused(t *testing.T, m api.Message, want api.Errno) {
	t.Helper()
	if err := message.Check(m); err != want {
		t.Errorf("Check(%v): %v; want %v", m, err, want)
	}
	if b, err := message.Bytes(m); len(b) != 0 || err != want {
		t.Errorf("Bytes(%v): % x, %v; want %v", m, b, err, want)
	}
}

// unread: bytes are not read, for this reason.
func unread(t *testing.T, b []byte, err api.Errno, at int) {
	t.Helper()
	before := slices.Clone(b)
	want := api.Fault{Err: err, At: at}
	if m, fault := message.Read(b); m != (api.Message{}) || fault != want {
		t.Errorf("Read(% x): %v, %v; want %v", b, m, fault, want)
	}
	if !slices.Equal(b, before) {
		t.Errorf("Read changed its bytes: % x; want % x", b, before)
	}
}
