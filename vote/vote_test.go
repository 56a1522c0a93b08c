package vote_test

import (
	"bytes"
	"crypto/sha3"
	"encoding/binary"
	"math"
	"slices"
	"testing"

	"distraint/api"
	"distraint/keccak"
	"distraint/vote"
)

// kind is the calls for a kind of votes, and votes to try them with.
type kind[V comparable] struct {
	name    string
	check   func(V) api.Errno
	bytes   func(V) ([]byte, api.Errno)
	read    func([]byte) (V, api.Fault)
	digest  func(V) (api.Hash, api.Errno)
	doubles func(V, V) bool
	// items tells the items of a vote's encoding, and ranges the least and the most of each, but for the last two, which are a root and a tag.
	items  func(V) [][]byte
	ranges [][2]int
	valid  []V
	wrong  []V
	// with tells the same vote with another tag.
	with func(V, uint64) V
}

func attestations() kind[api.Attestation] {
	return kind[api.Attestation]{
		"attestation", vote.Check, vote.Bytes, vote.Read, vote.Digest, vote.Doubles,
		func(a api.Attestation) [][]byte {
			return items(a.Root, a.Tag, 1, a.Validator, a.Source, a.Target)
		},
		[][2]int{{1, 1}, {0, 31}, {0, 1 << 32}, {0, 1 << 32}},
		validAttestations(), wrongAttestations(),
		func(a api.Attestation, tag uint64) api.Attestation { a.Tag = tag; return a },
	}
}

func proposals() kind[api.Proposal] {
	return kind[api.Proposal]{
		"proposal", vote.CheckBlock, vote.BytesBlock, vote.ReadBlock, vote.DigestBlock, vote.DoublesBlock,
		func(p api.Proposal) [][]byte { return items(p.Root, p.Tag, 2, p.Validator, p.Height) },
		[][2]int{{2, 2}, {0, 31}, {1, 1 << 32}},
		validProposals(), wrongProposals(),
		func(p api.Proposal, tag uint64) api.Proposal { p.Tag = tag; return p },
	}
}

// items tells the encodings of numbers, a root and a tag, by the library.
func items(root api.Hash, tag uint64, numbers ...int) (l [][]byte) {
	for _, n := range numbers {
		l = append(l, number(uint64(n)))
	}
	return append(l, root[:], number(tag))
}

func number(n uint64) []byte { return binary.AppendUvarint(nil, n) }

// The lists have the ends of the ranges, those around which an encoding grows, and what is just and far beyond.
func validators() []int { return []int{0, 1, 30, 31} }
func epochs() []int     { return []int{0, 1, 127, 128, 300, 1<<32 - 1, 1 << 32} }
func heights() []int    { return []int{1, 2, 127, 128, 300, 1<<32 - 1, 1 << 32} }
func tags() []uint64    { return []uint64{0, 5, 127, 128, 1<<63 - 1, 1 << 63, math.MaxUint64} }
func noValidators() []int {
	return []int{math.MinInt, -1 << 32, -1, 32, 33, 1 << 8, 1 << 32, math.MaxInt}
}
func noEpochs() []int  { return []int{math.MinInt, -1 << 32, -1, 1<<32 + 1, 1 << 33, math.MaxInt} }
func noHeights() []int { return append(noEpochs(), 0) }

// roots are some in which each byte stands elsewhere than in its neighbours, and the zero one.
func roots() []api.Hash {
	var counted, full api.Hash
	for i := range counted {
		counted[i], full[i] = byte(i*7+1), 0xff
	}
	return []api.Hash{{}, {0: 1}, {31: 0x80}, counted, full}
}

func validAttestations() (l []api.Attestation) {
	for _, v := range validators() {
		for _, source := range epochs() {
			for _, target := range epochs() {
				n := len(l)
				l = append(l, api.Attestation{Validator: v, Source: source, Target: target, Root: roots()[n%5], Tag: tags()[n/5%7]})
			}
		}
	}
	return l
}

func validProposals() (l []api.Proposal) {
	for _, v := range validators() {
		for _, height := range heights() {
			for _, tag := range tags() {
				l = append(l, api.Proposal{Validator: v, Height: height, Root: roots()[len(l)%5], Tag: tag})
			}
		}
	}
	return l
}

// wrongAttestations have one number beyond its range; some have them all.
func wrongAttestations() (l []api.Attestation) {
	for i, a := range validAttestations() {
		of, since, to := a, a, a
		of.Validator = noValidators()[i%len(noValidators())]
		since.Source = noEpochs()[i%len(noEpochs())]
		to.Target = noEpochs()[i%len(noEpochs())]
		l = append(l, of, since, to, api.Attestation{Validator: of.Validator, Source: since.Source, Target: to.Target})
	}
	return l
}

func wrongProposals() (l []api.Proposal) {
	for i, p := range validProposals() {
		of, at := p, p
		of.Validator = noValidators()[i%len(noValidators())]
		at.Height = noHeights()[i%len(noHeights())]
		l = append(l, of, at, api.Proposal{Validator: of.Validator, Height: at.Height})
	}
	return l
}

// bytesOf tells a valid vote's encoding.
func (k kind[V]) bytesOf(t *testing.T, x V) []byte {
	t.Helper()
	b, err := k.bytes(x)
	if err != api.OK {
		t.Fatalf("the bytes of the %s %v: %v", k.name, x, err)
	}
	return b
}

// checks: P4.1, of votes at all edges, and of votes beyond each.
func (k kind[V]) checks(t *testing.T) {
	for _, x := range k.valid {
		l := k.items(x)
		want, whole := slices.Concat(l...), slices.Concat(l[:len(l)-1]...)
		if err := k.check(x); err != api.OK {
			t.Errorf("check of the %s %v: %v", k.name, x, err)
		}
		if b, err := k.bytes(x); !bytes.Equal(b, want) || err != api.OK {
			t.Errorf("bytes of the %s %v: % x, %v; want % x", k.name, x, b, err, want)
		}
		if h, err := k.digest(x); h != api.Hash(sha3.Sum256(whole)) || err != api.OK {
			t.Errorf("digest of the %s %v: %x, %v", k.name, x, h, err)
		}
	}
	for _, x := range k.wrong {
		if err := k.check(x); err != api.ErrRange {
			t.Errorf("check of the %s %v: %v", k.name, x, err)
		}
		if b, err := k.bytes(x); len(b) > 0 || err != api.ErrRange {
			t.Errorf("bytes of the %s %v: % x, %v", k.name, x, b, err)
		}
		if h, err := k.digest(x); h != (api.Hash{}) || err != api.ErrRange {
			t.Errorf("digest of the %s %v: %x, %v", k.name, x, h, err)
		}
	}
}

// TestChecks: P4.1.
func TestChecks(t *testing.T) {
	attestations().checks(t)
	proposals().checks(t)
}

// digests: P4.1 and P4.4: a digest is that of all votes which differ in their tags, and of no others.
func (k kind[V]) digests(t *testing.T) {
	of := map[api.Hash]V{}
	for _, x := range k.valid {
		h, err := k.digest(x)
		if err != api.OK {
			t.Fatal(k.name, x, err)
		}
		for _, tag := range tags() {
			if again, err := k.digest(k.with(x, tag)); again != h || err != api.OK {
				t.Errorf("digest of the %s %v with the tag %d: %x, %v; want %x", k.name, x, tag, again, err, h)
			}
		}
		bare := k.with(x, 0)
		if other, ok := of[h]; ok && other != bare {
			t.Errorf("the %ss %v and %v have one digest", k.name, other, bare)
		}
		of[h] = bare
	}
}

// TestDigests: P4.1 and P4.4, and that no attestation has the digest of a proposal.
func TestDigests(t *testing.T) {
	attestations().digests(t)
	proposals().digests(t)
	a, _ := vote.Digest(api.Attestation{Validator: 1, Source: 2, Target: 3})
	p, _ := vote.DigestBlock(api.Proposal{Validator: 1, Height: 2})
	if a == p {
		t.Error("an attestation and a proposal have one digest")
	}
}

// shares: what is told is new memory each time.
func (k kind[V]) shares(t *testing.T) {
	x := k.valid[len(k.valid)-1]
	want := slices.Concat(k.items(x)...)
	first, second := k.bytesOf(t, x), k.bytesOf(t, x)
	clear(first[:cap(first)])
	if third := k.bytesOf(t, x); !bytes.Equal(second, want) || !bytes.Equal(third, want) {
		t.Errorf("bytes of the %s %v: % x and % x, after others were changed", k.name, x, second, third)
	}
}

func TestSharesNothing(t *testing.T) {
	attestations().shares(t)
	proposals().shares(t)
}

// from is the validator's attestation from an epoch to another one.
func from(validator, source, target int) api.Attestation {
	return api.Attestation{Validator: validator, Source: source, Target: target}
}

// TestExamples: the chapter's table.
func TestExamples(t *testing.T) {
	a, nine := from(1, 2, 3), from(1, 2, 3)
	a.Tag, nine.Tag = 5, 9
	p := api.Proposal{Validator: 1, Height: 300, Tag: 128}
	b := attestations().bytesOf(t, a)
	if want := append([]byte{1, 1, 2, 3, 35: 0}, 5); !bytes.Equal(b, want) {
		t.Errorf("Bytes(a): % x; want % x", b, want)
	}
	if b, want := proposals().bytesOf(t, p), append([]byte{2, 1, 0xac, 2, 35: 0}, 0x80, 1); !bytes.Equal(b, want) {
		t.Errorf("BytesBlock(p): % x; want % x", b, want)
	}
	for _, x := range []api.Attestation{a, nine} {
		if h, err := vote.Digest(x); h != keccak.Sum(b[:36]) || err != api.OK {
			t.Errorf("Digest(%v): %x, %v", x, h, err)
		}
	}
	for _, x := range []api.Attestation{from(32, 2, 3), from(1, -1, 3), from(1, 2, 1<<32+1)} {
		if err := vote.Check(x); err != api.ErrRange {
			t.Errorf("Check(%v): %v", x, err)
		}
	}
	for _, x := range []api.Proposal{{Validator: 1, Tag: 128}, {Validator: -1, Height: 300, Tag: 128}} {
		if err := vote.CheckBlock(x); err != api.ErrRange {
			t.Errorf("CheckBlock(%v): %v", x, err)
		}
	}
	attestations().refuses(t, []byte{2}, api.ErrRange, 0)
	attestations().refuses(t, []byte{1, 0x20}, api.ErrRange, 1)
	attestations().refuses(t, []byte{1, 1, 2, 3}, api.ErrShort, 4)
	attestations().refuses(t, append(b, 0), api.ErrLong, 37)
	proposals().refuses(t, []byte{2, 1, 0}, api.ErrRange, 2)
	for _, x := range []struct {
		call     string
		is, want bool
	}{
		{"Doubles(a, 1 from 1 to 3)", vote.Doubles(a, from(1, 1, 3)), true},
		{"Doubles(a, a with Tag 9)", vote.Doubles(a, nine), false},
		{"Surrounds(1 from 1 to 4, a)", vote.Surrounds(from(1, 1, 4), a), true},
		{"Surrounds(a, 1 from 1 to 4)", vote.Surrounds(a, from(1, 1, 4)), false},
		{"Surrounds(2 from 1 to 4, a)", vote.Surrounds(from(2, 1, 4), a), false},
	} {
		if x.is != x.want {
			t.Errorf("%s: %t", x.call, x.is)
		}
	}
}
