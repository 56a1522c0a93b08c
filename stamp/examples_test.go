package stamp_test

import (
	"bytes"
	"testing"

	"distraint/api"
	"distraint/stamp"
)

// TestExamples: the chapter's table, each of its rows.
func TestExamples(t *testing.T) {
	s := of(2, 9, 1, 5)
	newOne(t, 2, 9, answer{bare(2, 9), api.OK})
	newOne(t, 32, 9, refused(api.ErrRange))
	newOne(t, 2, 0, refused(api.ErrRange))
	hop(t, bare(1, 5), 2, 9, answer{s, api.OK})
	hop(t, bare(1, 5), 1, 9, refused(api.ErrArg))
	hop(t, bare(1, 5), 2, 4, refused(api.ErrOrder))
	for _, x := range []struct {
		v, h, until int
		want        bool
	}{
		{2, 9, 0, true}, {2, 8, 0, false}, {1, 9, 0, true}, {1, 5, 0, true}, {1, 4, 0, false}, {1, 10, 0, false},
		{2, 20, 0, true}, {2, 20, 20, true}, {2, 21, 20, false}, {1, 7, 20, true}, {0, 9, 0, false},
	} {
		if is := stamp.Backed(s, x.v, x.h, x.until); is != x.want {
			t.Errorf("Backed(s, %d, %d, %d): %v", x.v, x.h, x.until, is)
		}
	}
	for _, x := range []struct {
		s    api.Stamp
		want api.Errno
	}{
		{of(2, 9, 2, 5), api.ErrArg}, {of(2, 9, -1, 5), api.ErrState}, {of(2, 9, 1, 0), api.ErrState}, {of(2, 9, 1, 10), api.ErrOrder}, {bare(2, 0), api.ErrRange},
	} {
		if err := stamp.Check(x.s); err != x.want {
			t.Errorf("Check(%v): %v; want %v", x.s, err, x.want)
		}
	}
	for _, x := range []struct {
		s    api.Stamp
		want []byte
	}{{s, []byte{2, 9, 2, 5}}, {bare(2, 9), []byte{2, 9, 0, 0}}} {
		if b, err := stamp.Bytes(x.s); !bytes.Equal(b, x.want) || err != api.OK {
			t.Errorf("Bytes(%v): % x, %v", x.s, b, err)
		}
	}
	read(t, []byte{2, 9, 3, 5}, api.Stamp{}, fault(api.ErrArg, 0))
	read(t, []byte{32}, api.Stamp{}, fault(api.ErrRange, 0))
	read(t, []byte{2, 9, 2, 5, 1}, api.Stamp{}, fault(api.ErrLong, 4))
	for _, x := range []struct {
		a, b api.Stamp
		want int
	}{{bare(2, 9), s, -1}, {s, bare(2, 10), -1}, {s, s, 0}, {bare(1, 99), bare(2, 1), -1}} {
		if is := stamp.Compare(x.a, x.b); is != x.want {
			t.Errorf("Compare(%v, %v): %d", x.a, x.b, is)
		}
	}
}

// TestLotThatMoves: the third of the document's ten examples of the whole.
func TestLotThatMoves(t *testing.T) {
	first, _ := stamp.New(1, 5)
	s, err := stamp.Hop(first, 2, 9)
	if err != api.OK {
		t.Fatal(err)
	}
	for h := range 30 {
		if stamp.Backed(s, 1, h, 0) != (h >= 5 && h <= 9) || stamp.Backed(s, 2, h, 0) != (h >= 9) {
			t.Errorf("at %d: %v, %v", h, stamp.Backed(s, 1, h, 0), stamp.Backed(s, 2, h, 0))
		}
	}
}
