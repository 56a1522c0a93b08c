package stamp_test

import (
	"math"
	"testing"

	"distraint/api"
	"distraint/stamp"
)

// isBacked tells what the chapter's words say.
func isBacked(s api.Stamp, v, h, until int) bool {
	if !isValid(s) {
		return false
	}
	now := v == s.Validator && h >= s.Since && (until < 1 || h <= until)
	before := s.Prior != -1 && v == s.Prior && h >= s.From && h <= s.Since
	return now || before
}

// TestBacked: P12.3, written out: each end of each range and one beyond.
func TestBacked(t *testing.T) {
	s := of(2, 9, 1, 5)
	for _, x := range []struct {
		s           api.Stamp
		v, h, until int
		want        bool
	}{
		{s, 2, 8, 0, false}, {s, 2, 9, 0, true}, {s, 2, 10, 0, true}, {s, 2, 4294967296, 0, true}, {s, 2, 9, -1, true}, {s, 2, 4294967296, math.MinInt, true},
		{s, 2, 8, 20, false}, {s, 2, 9, 20, true}, {s, 2, 19, 20, true}, {s, 2, 20, 20, true}, {s, 2, 21, 20, false}, {s, 2, 4294967296, 20, false},
		{s, 2, 8, 9, false}, {s, 2, 9, 9, true}, {s, 2, 10, 9, false},
		{s, 2, 7, 8, false}, {s, 2, 8, 8, false}, {s, 2, 9, 8, false}, {s, 2, 9, 1, false}, {s, 2, 1, 1, false}, {s, 2, 0, 0, false},
		{s, 2, 4294967296, 4294967296, true}, {s, 2, 4294967296, 4294967295, false}, {s, 2, 9, math.MaxInt, true},
		{s, 1, 4, 0, false}, {s, 1, 5, 0, true}, {s, 1, 6, 0, true}, {s, 1, 8, 0, true}, {s, 1, 9, 0, true}, {s, 1, 10, 0, false},
		{s, 1, 4, 20, false}, {s, 1, 5, 20, true}, {s, 1, 9, 20, true}, {s, 1, 10, 20, false}, {s, 1, 9, 9, true}, {s, 1, 10, 10, false},
		{s, 1, 0, 0, false}, {s, 1, -1, 0, false}, {s, 1, 7, 6, true}, {s, 1, 7, 1, true}, // an until ahead of Since takes nothing from the Prior
		{s, 0, 9, 0, false}, {s, 3, 9, 0, false}, {s, 3, 7, 0, false}, {s, 0, 0, 0, false}, {s, 3, 0, 0, false}, {s, 3, 0, 20, false}, {s, 3, 20, 20, false},
		{s, -1, 9, 0, false}, {s, -1, 7, 0, false}, {s, -1, 0, 0, false}, {s, 32, 9, 0, false}, {s, 32, 0, 0, false}, {s, math.MinInt, 0, 0, false}, {s, math.MaxInt, 9, 0, false},
		{bare(2, 9), 2, 8, 0, false}, {bare(2, 9), 2, 9, 0, true}, {bare(2, 9), 2, 20, 20, true}, {bare(2, 9), 2, 21, 20, false},
		{bare(2, 9), -1, 0, 0, false}, {bare(2, 9), -1, 1, 0, false}, {bare(2, 9), -1, 5, 0, false}, {bare(2, 9), -1, 9, 0, false}, {bare(2, 9), -1, 9, 9, false}, {bare(2, 9), 1, 9, 0, false}, {bare(2, 9), 0, 0, 0, false},
		{of(2, 9, 1, 9), 1, 8, 0, false}, {of(2, 9, 1, 9), 1, 9, 0, true}, {of(2, 9, 1, 9), 1, 10, 0, false}, {of(2, 9, 1, 9), 2, 9, 0, true},
		{bare(0, 1), 0, 0, 0, false}, {bare(0, 1), 0, 1, 0, true}, {bare(0, 1), 0, 1, 1, true}, {bare(0, 1), 0, 2, 1, false},
		{bare(31, top), 31, top - 1, 0, false}, {bare(31, top), 31, top, 0, true}, {of(0, top, 31, 1), 31, top, 0, true}, {of(0, top, 31, 1), 31, 1, 0, true}, {of(0, top, 31, 1), 31, 0, 0, false},
	} {
		if is := stamp.Backed(x.s, x.v, x.h, x.until); is != x.want {
			t.Errorf("Backed(%v, %d, %d, %d): %v", x.s, x.v, x.h, x.until, is)
		}
	}
}

// around are heights at the ends of a stamp's ranges, and one beyond.
func around(s api.Stamp) []int {
	return []int{math.MinInt, -1, 0, 1, 2, s.From - 1, s.From, s.From + 1, s.Since - 1, s.Since, s.Since + 1, top - 1, top, math.MaxInt}
}

// asked: P12.3, by the chapter's words, for all that a stamp may be asked.
func asked(t *testing.T, s api.Stamp) (yes, no int) {
	t.Helper()
	for _, v := range []int{s.Validator, s.Prior, -1, 0, 1, 3, 31, 32, math.MinInt, math.MaxInt} {
		for _, h := range around(s) {
			for _, until := range append(around(s), h-1, h, h+1) {
				is := stamp.Backed(s, v, h, until)
				if is != isBacked(s, v, h, until) {
					t.Errorf("Backed(%v, %d, %d, %d): %v", s, v, h, until, is)
				}
				if is {
					yes++
				} else {
					no++
				}
			}
		}
	}
	return yes, no
}

// TestBackedEdges: P12.3, of stamps that are valid.
func TestBackedEdges(t *testing.T) {
	yes, no := 0, 0
	for _, s := range valids() {
		more, fewer := asked(t, s)
		yes, no = yes+more, no+fewer
	}
	if yes < 50000 || no < 50000 {
		t.Errorf("%d did, %d did not", yes, no)
	}
}

// TestBackedOfInvalid: P12.3: a lot of a stamp that is not valid backed nobody.
func TestBackedOfInvalid(t *testing.T) {
	for _, s := range invalids() {
		if yes, _ := asked(t, s); yes != 0 {
			t.Errorf("%v backed somebody", s)
		}
	}
	for _, s := range []api.Stamp{{}, of(2, 9, 1, 10), of(2, 9, 1, 0), of(2, 9, 2, 5), of(2, 9, -1, 5), of(32, 9, 1, 5), of(-1, 9, 1, 5), of(2, 9, 32, 5), bare(2, 0), bare(2, -1)} {
		for v := -2; v < 34; v++ {
			for h := range 12 {
				if stamp.Backed(s, v, h, 0) {
					t.Errorf("Backed(%v, %d, %d, 0)", s, v, h)
				}
			}
		}
	}
}

// TestBackedAll: P12.3: small stamps, everybody, and all heights, by the chapter's words.
func TestBackedAll(t *testing.T) {
	for since := 1; since < 8; since++ {
		for from := 0; from <= since; from++ {
			s := of(3, since, 1, from)
			if from == 0 {
				s = bare(3, since)
			}
			for v := -2; v < 34; v++ {
				for h := -1; h < 11; h++ {
					for until := -1; until < 11; until++ {
						if stamp.Backed(s, v, h, until) != isBacked(s, v, h, until) {
							t.Fatalf("Backed(%v, %d, %d, %d)", s, v, h, until)
						}
					}
				}
			}
		}
	}
}

// hopped: P12.5: whom a lot backed at h that hopped at one height, and what it was before.
func hopped(t *testing.T, old, s api.Stamp, at, h, until int) {
	t.Helper()
	for v := -2; v < 34; v++ {
		is, want := stamp.Backed(s, v, h, until), false
		switch v {
		case old.Validator:
			want = h >= old.Since && h <= at
			if want && !stamp.Backed(old, v, h, 0) {
				t.Fatalf("%v did not back %d at %d before", old, v, h)
			}
		case s.Validator:
			want = h >= at && (until < 1 || h <= until)
		}
		if is != want {
			t.Fatalf("%v hopped to %v: backed %d at %d, until %d: %v", old, s, v, h, until, is)
		}
	}
}

// TestHops: P12.5, of drawn stamps, hops and heights, and of hops of hops.
func TestHops(t *testing.T) {
	r := source(5)
	for range 3000 {
		s := drawn(r)
		for range 4 {
			old, at := s, s.Since+r.IntN(min(1<<r.IntN(33), top-s.Since+1))
			to := (s.Validator + 1 + r.IntN(31)) % 32
			if r.IntN(4) == 0 && old.Prior >= 0 {
				to = old.Prior
			}
			var err api.Errno
			if s, err = stamp.Hop(old, to, at); err != api.OK || stamp.Check(s) != api.OK {
				t.Fatalf("Hop(%v, %d, %d): %v, %v", old, to, at, s, err)
			}
			for _, h := range []int{old.From, old.Since - 1, old.Since, old.Since + (at-old.Since)/2, at - 1, at, at + 1, height(r), top} {
				hopped(t, old, s, at, h, 0)
				hopped(t, old, s, at, h, at+r.IntN(1000))
				hopped(t, old, s, at, h, at)
			}
		}
	}
}

// TestHopsAll: P12.5, of small stamps, at all heights.
func TestHopsAll(t *testing.T) {
	for _, old := range []api.Stamp{bare(3, 4), of(3, 4, 1, 2), of(3, 4, 5, 4), of(3, 1, 0, 1)} {
		for _, to := range []int{0, 1, 5, 31} {
			for at := old.Since; at < 9; at++ {
				s, err := stamp.Hop(old, to, at)
				if err != api.OK {
					t.Fatalf("Hop(%v, %d, %d): %v", old, to, at, err)
				}
				for h := range 12 {
					hopped(t, old, s, at, h, 0)
					hopped(t, old, s, at, h, at)
					hopped(t, old, s, at, h, 10)
				}
			}
		}
	}
}
