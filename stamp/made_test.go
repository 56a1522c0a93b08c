package stamp_test

import (
	"math"
	"testing"

	"distraint/api"
	"distraint/stamp"
)

// answer is what New and Hop return.
type answer struct {
	s   api.Stamp
	err api.Errno
}

func refused(err api.Errno) answer { return answer{err: err} }

func newOne(t *testing.T, v, h int, want answer) {
	t.Helper()
	if s, err := stamp.New(v, h); (answer{s, err}) != want {
		t.Errorf("New(%d, %d): %v, %v; want %v", v, h, s, err, want)
	}
}

func hop(t *testing.T, s api.Stamp, to, h int, want answer) {
	t.Helper()
	if is, err := stamp.Hop(s, to, h); (answer{is, err}) != want {
		t.Errorf("Hop(%v, %d, %d): %v, %v; want %v", s, to, h, is, err, want)
	}
}

// TestNew: P12.2, written out: each bound and one beyond.
func TestNew(t *testing.T) {
	newOne(t, 2, 9, answer{of(2, 9, -1, 0), api.OK})
	newOne(t, 0, 1, answer{of(0, 1, -1, 0), api.OK})
	newOne(t, 31, 4294967296, answer{of(31, 4294967296, -1, 0), api.OK})
	for _, v := range []int{-1, 32} {
		for _, h := range []int{0, 1, 9, 4294967296, 4294967297} {
			newOne(t, v, h, refused(api.ErrRange))
		}
	}
	for _, h := range []int{math.MinInt, -1, 0, 4294967297, math.MaxInt} {
		for _, v := range []int{-1, 0, 2, 31, 32} {
			newOne(t, v, h, refused(api.ErrRange))
		}
	}
}

// TestNewEdges: P12.2, by the chapter's words.
func TestNewEdges(t *testing.T) {
	for _, v := range validators() {
		for _, h := range heights() {
			want := answer{bare(v, h), api.OK}
			if v < 0 || v > 31 || h < 1 || h > 4294967296 {
				want = refused(api.ErrRange)
			}
			newOne(t, v, h, want)
		}
	}
}

// TestHop: P12.2, written out: each bound and one beyond, the Validator itself, and around Since, of stamps with and without a Prior.
func TestHop(t *testing.T) {
	for _, s := range []api.Stamp{bare(2, 9), of(2, 9, 1, 5), of(2, 9, 7, 9), of(2, 9, 31, 1)} {
		for _, x := range []struct {
			to, h int
			want  answer
		}{
			{3, 8, refused(api.ErrOrder)}, {3, 9, answer{of(3, 9, 2, 9), api.OK}}, {3, 10, answer{of(3, 10, 2, 9), api.OK}},
			{3, 0, refused(api.ErrRange)}, {3, 1, refused(api.ErrOrder)}, {3, 4294967296, answer{of(3, 4294967296, 2, 9), api.OK}}, {3, 4294967297, refused(api.ErrRange)},
			{-1, 9, refused(api.ErrRange)}, {0, 9, answer{of(0, 9, 2, 9), api.OK}}, {31, 9, answer{of(31, 9, 2, 9), api.OK}}, {32, 9, refused(api.ErrRange)},
			{2, 9, refused(api.ErrArg)}, {2, 8, refused(api.ErrArg)}, {2, 10, refused(api.ErrArg)}, {2, 0, refused(api.ErrRange)}, {2, 4294967297, refused(api.ErrRange)},
			{-1, 8, refused(api.ErrRange)}, {32, 8, refused(api.ErrRange)},
			{1, 9, answer{of(1, 9, 2, 9), api.OK}}, // back to the Prior
		} {
			hop(t, s, x.to, x.h, x.want)
		}
	}
	hop(t, bare(0, 1), 1, 1, answer{of(1, 1, 0, 1), api.OK})
	hop(t, bare(0, 1), 31, top, answer{of(31, top, 0, 1), api.OK})
	hop(t, bare(0, top), 1, top, answer{of(1, top, 0, top), api.OK})
	hop(t, bare(0, top), 1, top-1, refused(api.ErrOrder))
}

// wantHop tells what the chapter's words say.
func wantHop(s api.Stamp, to, h int) answer {
	switch {
	case wrong(s) != api.OK:
		return refused(wrong(s))
	case to < 0 || to > 31 || h < 1 || h > 4294967296:
		return refused(api.ErrRange)
	case to == s.Validator:
		return refused(api.ErrArg)
	case h < s.Since:
		return refused(api.ErrOrder)
	}
	return answer{of(to, h, s.Validator, s.Since), api.OK}
}

// TestHopEdges: P12.2, by the chapter's words, of stamps that are valid and of others.
func TestHopEdges(t *testing.T) {
	for _, s := range append(valids(), invalids()...) {
		for _, to := range append(validators(), s.Validator, s.Prior) {
			for _, h := range append(heights(), s.Since-1, s.Since, s.From) {
				hop(t, s, to, h, wantHop(s, to, h))
			}
		}
	}
}

// TestHopOfInvalid: P12.2: the error of Check comes first, whatever else is wrong.
func TestHopOfInvalid(t *testing.T) {
	for _, s := range invalids() {
		for _, to := range []int{-1, 3, 32, s.Validator} {
			for _, h := range []int{0, 1, 9, 10, top + 1} {
				hop(t, s, to, h, refused(wrong(s)))
			}
		}
	}
	hop(t, of(2, 9, 1, 0), 32, 9, refused(api.ErrState))
	hop(t, of(2, 9, 1, 10), 32, 0, refused(api.ErrOrder))
	hop(t, of(2, 9, 2, 5), 3, 8, refused(api.ErrArg))
}
