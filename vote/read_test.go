package vote_test

import (
	"bytes"
	"math"
	"math/rand/v2"
	"slices"
	"testing"

	"distraint/api"
)

func (k kind[V]) refuses(t *testing.T, b []byte, err api.Errno, at int) {
	t.Helper()
	var none V
	want := api.Fault{Err: err, At: at}
	if x, fault := k.read(b); x != none || fault != want {
		t.Errorf("%s of % x: %v, %v; want %v", k.name, b, x, fault, want)
	}
}

// offset tells where the item i begins.
func offset(l [][]byte, i int) int { return len(slices.Concat(l[:i]...)) }

// other tells the bytes of the items, the item i being another one, as if the rest had been written behind it.
func other(l [][]byte, i int, item []byte) []byte {
	return slices.Concat(slices.Concat(l[:i]...), item, slices.Concat(l[i+1:]...))
}

// refusesAt: the item i is refused where it begins, whatever follows it: the rest, nothing, or another wrong item.
func (k kind[V]) refusesAt(t *testing.T, l [][]byte, i int, item []byte, err api.Errno) {
	t.Helper()
	b, at := other(l, i, item), offset(l, i)
	k.refuses(t, b, err, at)
	k.refuses(t, b[:at+len(item)], err, at)
	k.refuses(t, append(b, 0), err, at)
	k.refuses(t, append(b[:at+len(item):at+len(item)], 0xff, 0x80, 0), err, at)
}

// some are few enough votes to try many wrong bytes for each.
func (k kind[V]) some() (l []V) {
	for i := 0; i < len(k.valid); i += 3 {
		l = append(l, k.valid[i])
	}
	return append(l, k.valid[len(k.valid)-1])
}

// readsBack: P4.2 and P4.4: each vote is read from its encoding.
func (k kind[V]) readsBack(t *testing.T) {
	for _, x := range k.valid {
		b := slices.Concat(k.items(x)...)
		before := bytes.Clone(b)
		if is, fault := k.read(b); is != x || fault != (api.Fault{}) {
			t.Errorf("%s of % x: %v, %v; want %v", k.name, b, is, fault, x)
		}
		if is, fault := k.read(k.bytesOf(t, x)); is != x || fault != (api.Fault{}) {
			t.Errorf("%s of its own bytes: %v, %v; want %v", k.name, is, fault, x)
		}
		if !bytes.Equal(b, before) {
			t.Errorf("reading a %s changed its bytes: % x; want % x", k.name, b, before)
		}
	}
}

// TestReadsBack: P4.2 and P4.4.
func TestReadsBack(t *testing.T) {
	attestations().readsBack(t)
	proposals().readsBack(t)
}

// readsCut: P4.2: an encoding that is cut off lacks the item in which, or ahead of which, it ends. What was cut off is spare capacity.
func (k kind[V]) readsCut(t *testing.T) {
	k.refuses(t, nil, api.ErrShort, 0)
	for _, x := range k.some() {
		l := k.items(x)
		b := slices.Concat(l...)
		for i, item := range l {
			at := offset(l, i)
			for size := range item {
				k.refuses(t, b[:at+size], api.ErrShort, at)
			}
		}
	}
}

// TestReadsCut: P4.2.
func TestReadsCut(t *testing.T) {
	attestations().readsCut(t)
	proposals().readsCut(t)
}

// readsBeyond: P4.2: a number that is just or far out of its range, each.
func (k kind[V]) readsBeyond(t *testing.T) {
	for _, x := range k.some() {
		l := k.items(x)
		for i, r := range k.ranges {
			wrong := []uint64{uint64(r[1]) + 1, uint64(r[1]) + 256, uint64(r[1]) + 1<<32, math.MaxInt, 1 << 63, 1<<63 + uint64(r[1]), math.MaxUint64}
			for n := range r[0] {
				wrong = append(wrong, uint64(n))
			}
			for _, n := range wrong {
				k.refusesAt(t, l, i, number(n), api.ErrRange)
			}
		}
	}
}

// TestReadsBeyond: P4.2.
func TestReadsBeyond(t *testing.T) {
	attestations().readsBeyond(t)
	proposals().readsBeyond(t)
}

// longer are byte strings that are not the one encoding of the number that item encodes, but may be read as it.
func longer(item []byte) [][]byte {
	more := bytes.Clone(item)
	more[len(more)-1] |= 0x80
	all := [][]byte{append(bytes.Clone(more), 0)}
	if len(item) < 9 {
		all = append(all, append(bytes.Clone(more), 0x80, 0))
	}
	return append(all, append(append(bytes.Clone(more), bytes.Repeat([]byte{0x80}, 10-len(item))...), 0))
}

// readsLonger: P4.2: a number that is written longer than it needs, each; a tag that is no number at all.
func (k kind[V]) readsLonger(t *testing.T) {
	for _, x := range k.some() {
		l := k.items(x)
		for i, item := range l {
			if len(item) == 32 {
				continue
			}
			for _, wrong := range longer(item) {
				k.refusesAt(t, l, i, wrong, api.ErrForm)
			}
		}
		for _, last := range []byte{0, 2, 0x7f, 0x80, 0xff} {
			tag := append(bytes.Repeat([]byte{0xff}, 9), last)
			k.refusesAt(t, l, len(l)-1, tag, api.ErrForm)
		}
	}
}

// TestReadsLonger: P4.2.
func TestReadsLonger(t *testing.T) {
	attestations().readsLonger(t)
	proposals().readsLonger(t)
}

// readsMore: P4.2: bytes behind the tag, one or many.
func (k kind[V]) readsMore(t *testing.T) {
	for _, x := range k.some() {
		b := k.bytesOf(t, x)
		for _, more := range [][]byte{{0}, {1}, {0x80}, {0xff}, b, make([]byte, 200)} {
			k.refuses(t, slices.Concat(b, more), api.ErrLong, len(b))
		}
	}
}

// TestReadsMore: P4.2.
func TestReadsMore(t *testing.T) {
	attestations().readsMore(t)
	proposals().readsMore(t)
}

// TestReadsOtherKinds: P4.2: neither reads what the other one wrote.
func TestReadsOtherKinds(t *testing.T) {
	for _, a := range attestations().valid {
		proposals().refuses(t, attestations().bytesOf(t, a), api.ErrRange, 0)
	}
	for _, p := range proposals().valid {
		attestations().refuses(t, proposals().bytesOf(t, p), api.ErrRange, 0)
	}
}

// readsMixed: P4.4: of many byte strings, right and wrong ones: what is read is encoded as they are, and is valid.
func (k kind[V]) readsMixed(t *testing.T) {
	var none V
	source := rand.New(rand.NewPCG(4, 4))
	right, wrong := 0, 0
	for range 50 {
		for _, x := range k.valid {
			b := k.bytesOf(t, x)
			if source.IntN(2) == 0 {
				b[source.IntN(len(b))] ^= 1 << source.IntN(8)
			} else {
				b[source.IntN(len(b))] = byte(source.Uint32())
			}
			is, fault := k.read(b)
			if fault != (api.Fault{}) {
				wrong++
				if is != none || fault.Err == api.OK || fault.At < 0 || fault.At > len(b) {
					t.Errorf("%s of % x: %v, %v", k.name, b, is, fault)
				}
				continue
			}
			right++
			if again := k.bytesOf(t, is); !bytes.Equal(again, b) {
				t.Errorf("%s of % x: %v, whose bytes are % x", k.name, b, is, again)
			}
		}
	}
	if right < 1000 || wrong < 500 {
		t.Error("too few of one sort:", k.name, right, wrong)
	}
}

// TestReadsMixed: P4.4.
func TestReadsMixed(t *testing.T) {
	attestations().readsMixed(t)
	proposals().readsMixed(t)
}
