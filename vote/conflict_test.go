package vote_test

import (
	"testing"

	"distraint/api"
	"distraint/vote"
)

// near are attestations that are alike, or nearly so: valid ones, with sources below and above their targets, and some beyond each bound.
func near() (l []api.Attestation) {
	epochs := []int{-1, 0, 1, 2, 3, 1 << 32, 1<<32 + 1}
	for _, v := range []int{-1, 0, 31, 32} {
		for _, source := range epochs {
			for _, target := range epochs {
				a := from(v, source, target)
				rooted, tagged := a, a
				rooted.Root[31] = 1
				tagged.Tag = 1 << 63
				l = append(l, a, rooted, tagged)
			}
		}
	}
	return l
}

func nearBlocks() (l []api.Proposal) {
	for _, v := range []int{-1, 0, 1, 31, 32} {
		for _, height := range []int{-1, 0, 1, 2, 3, 300, 1<<32 - 1, 1 << 32, 1<<32 + 1} {
			for _, root := range roots() {
				for _, tag := range []uint64{0, 1, 1 << 63} {
					l = append(l, api.Proposal{Validator: v, Height: height, Root: root, Tag: tag})
				}
			}
		}
	}
	return l
}

func right(n, least, most int) bool { return n >= least && n <= most }

func rightVote(a api.Attestation) bool {
	return right(a.Validator, 0, 31) && right(a.Source, 0, 1<<32) && right(a.Target, 0, 1<<32)
}

// double tells whether two attestations double, by their fields: two that differ in one which their digests cover have different ones.
func double(a, b api.Attestation) bool {
	return rightVote(a) && rightVote(b) && a.Validator == b.Validator && a.Target == b.Target && (a.Source != b.Source || a.Root != b.Root)
}

func surround(a, b api.Attestation) bool {
	return rightVote(a) && rightVote(b) && a.Validator == b.Validator && a.Source < b.Source && b.Target < a.Target
}

func doubleBlock(p, q api.Proposal) bool {
	valid := right(p.Validator, 0, 31) && right(p.Height, 1, 1<<32)
	return valid && p.Validator == q.Validator && p.Height == q.Height && p.Root != q.Root
}

// TestConflicts: P4.3 and P4.5, of all pairs of attestations: none is twofold, and only doubling goes both ways.
func TestConflicts(t *testing.T) {
	doubles, surrounds := 0, 0
	for _, a := range near() {
		for _, b := range near() {
			twice, around := vote.Doubles(a, b), vote.Surrounds(a, b)
			if twice != double(a, b) || around != surround(a, b) {
				t.Errorf("%v, %v: Doubles %t, Surrounds %t", a, b, twice, around)
			}
			if twice {
				doubles++
			}
			if around {
				surrounds++
			}
			if twice && !vote.Doubles(b, a) || twice && around || around && vote.Surrounds(b, a) {
				t.Errorf("%v, %v: Doubles %t, other way %t; Surrounds %t, other way %t", a, b, twice, vote.Doubles(b, a), around, vote.Surrounds(b, a))
			}
		}
	}
	if doubles == 0 || surrounds == 0 {
		t.Error("too few conflicts:", doubles, surrounds)
	}
}

// TestOwnConflicts: P4.5: no vote conflicts with itself, whatever its tag is.
func TestOwnConflicts(t *testing.T) {
	for _, a := range append(attestations().valid, near()...) {
		for _, tag := range tags() {
			b := attestations().with(a, tag)
			if vote.Doubles(a, b) || vote.Doubles(b, a) || vote.Surrounds(a, b) || vote.Surrounds(b, a) {
				t.Errorf("%v conflicts with itself, with the tag %d", a, tag)
			}
		}
	}
	for _, p := range append(proposals().valid, nearBlocks()...) {
		for _, tag := range tags() {
			if q := proposals().with(p, tag); vote.DoublesBlock(p, q) || vote.DoublesBlock(q, p) {
				t.Errorf("%v conflicts with itself, with the tag %d", p, tag)
			}
		}
	}
}

// TestBlockConflicts: P4.3 and P4.5, of all pairs of proposals.
func TestBlockConflicts(t *testing.T) {
	doubles := 0
	for _, p := range nearBlocks() {
		for _, q := range nearBlocks() {
			is := vote.DoublesBlock(p, q)
			if is != doubleBlock(p, q) || is != vote.DoublesBlock(q, p) {
				t.Errorf("DoublesBlock(%v, %v): %t, other way %t", p, q, is, vote.DoublesBlock(q, p))
			}
			if is {
				doubles++
			}
		}
	}
	if doubles == 0 {
		t.Error("no conflicts")
	}
}

// TestAnyRootConflicts: P4.3: a root that differs in any single bit, at all edges of the other fields.
func TestAnyRootConflicts(t *testing.T) {
	for bit := range 256 {
		a, p := attestations().valid[bit%196], proposals().valid[bit%196]
		b, q := a, p
		b.Root[bit/8] ^= 1 << (bit % 8)
		q.Root[bit/8] ^= 1 << (bit % 8)
		if !vote.Doubles(a, b) || !vote.DoublesBlock(p, q) {
			t.Errorf("votes whose roots differ in the bit %d: Doubles %t, DoublesBlock %t", bit, vote.Doubles(a, b), vote.DoublesBlock(p, q))
		}
	}
}

// TestSurroundsChains: P4.5: what surrounds a vote surrounds all that this one surrounds, also where sources are above their targets.
func TestSurroundsChains(t *testing.T) {
	var l []api.Attestation
	for source := range 6 {
		for target := range 6 {
			l = append(l, from(3, source, target))
		}
	}
	l = append(l, from(3, 0, 1<<32), from(3, 1, 1<<32-1), from(3, 1<<32, 0), from(2, 0, 5), from(2, 1, 4))
	chains := 0
	for _, a := range l {
		for _, b := range l {
			if !vote.Surrounds(a, b) {
				continue
			}
			for _, c := range l {
				if vote.Surrounds(b, c) {
					chains++
					if !vote.Surrounds(a, c) {
						t.Errorf("%v surrounds %v, and this one %v, but not the first the last", a, b, c)
					}
				}
			}
		}
	}
	if chains == 0 {
		t.Error("no chains")
	}
}
