package queue_test

import (
	"math"
	"slices"
	"testing"

	"distraint/api"
)

// parts tells a queue of which the first n entries are ripe.
func parts(l []api.Entry, n int) told { return told{ripe: l[:n], queue: l[n:]} }

// TestRipe: P14.3, written out: at each side of the height at which an entry is mature; entries that have the same Created are so together.
func TestRipe(t *testing.T) {
	s := bare(2, 1)
	l := list(entry(0, s, 3, 1), entry(1, s, 3, 2), cutTo(entry(2, s, 3, 3), 0), entry(0, s, 4, 4), entry(0, s, 9, 5), entry(1, s, 9, 6), entry(2, s, 20, 7))
	for _, x := range []struct{ h, unbonding, ripe int }{
		{1, 1, 0}, {3, 1, 0}, {4, 1, 3}, {5, 1, 4}, {9, 1, 4}, {10, 1, 6}, {20, 1, 6}, {21, 1, 7}, {22, 1, 7}, {top, 1, 7},
		{12, 10, 0}, {13, 10, 3}, {14, 10, 4}, {18, 10, 4}, {19, 10, 6}, {29, 10, 6}, {30, 10, 7},
		{4, 2, 0}, {5, 2, 3}, {6, 3, 3}, {6, 4, 0}, {30, 27, 3}, {30, 26, 4}, {30, 28, 0}, {30, 21, 6}, {30, 22, 4},
		{1 << 20, 1 << 20, 0}, {1<<20 + 2, 1 << 20, 0}, {1<<20 + 3, 1 << 20, 3}, {1<<20 + 4, 1 << 20, 4}, {1<<20 + 19, 1 << 20, 6}, {1<<20 + 20, 1 << 20, 7}, {top, 1 << 20, 7},
	} {
		ripe(x.h, x.unbonding).is(t, l, parts(l, x.ripe))
	}
}

// TestRipeNone: P14.3: of no entries, all heights are the same.
func TestRipeNone(t *testing.T) {
	for _, h := range []int{1, 2, 1 << 20, top - 1, top} {
		for _, unbonding := range []int{1, 2, 1<<20 - 1, 1 << 20} {
			ripe(h, unbonding).is(t, nil, told{})
			ripe(h, unbonding).is(t, []api.Entry{}, told{})
		}
	}
}

// TestRipeOne: P14.3: an entry alone, at the ends of all heights. What is created so late that its height is none that is mature is never so.
func TestRipeOne(t *testing.T) {
	for _, created := range []int{1, 2, 1 << 20, top - 1<<20, top - 1<<20 + 1, top - 1, top} {
		l := list(entry(63, bare(31, 1), created, most))
		for _, unbonding := range []int{1, 2, 1<<20 - 1, 1 << 20} {
			at := created + unbonding
			for _, h := range []int{1, created, at - 2, at - 1, at, at + 1, top - 1, top} {
				switch {
				case h < 1 || h > top:
					ripe(h, unbonding).is(t, l, refused(api.ErrRange))
				case h < at:
					ripe(h, unbonding).is(t, l, parts(l, 0))
				default:
					ripe(h, unbonding).is(t, l, parts(l, 1))
				}
			}
		}
	}
}

// TestRipeBounds: P14.3: h and unbonding just, and far, out of their bounds.
func TestRipeBounds(t *testing.T) {
	for _, l := range some() {
		for _, h := range timeless() {
			for _, unbonding := range []int{-1, 0, 1, 10, 1 << 20, 1<<20 + 1} {
				ripe(h, unbonding).is(t, l, refused(api.ErrRange))
			}
		}
		for _, unbonding := range []int{math.MinInt, -1 << 20, -1, 0, 1<<20 + 1, top, math.MaxInt} {
			for _, h := range []int{1, 19, top} {
				ripe(h, unbonding).is(t, l, refused(api.ErrRange))
			}
		}
		for _, h := range []int{1, top} {
			for _, unbonding := range []int{1, 1 << 20} {
				if got := ripe(h, unbonding).ask(l); got.err != api.OK {
					t.Errorf("Ripe(%s, %d, %d): %v", brief(l), h, unbonding, got.err)
				}
			}
		}
	}
}

// TestRipeLong: P14.3: each place at which a long queue can be parted, as far as Created differs.
func TestRipeLong(t *testing.T) {
	l := long(300) // ten entries of each height from 1 to 30
	for n := range 31 {
		ripe(n+5, 5).is(t, l, parts(l, 10*n))
	}
	l = long(32768)
	for _, n := range []int{0, 1, 1638, 3276} {
		ripe(n+5, 5).is(t, l, parts(l, 10*n))
	}
	ripe(3282, 5).is(t, l, parts(l, 32768))
	ripe(3281, 5).is(t, l, parts(l, 32760))
	same := repeated(300, entry(0, bare(2, 5), 9, 1))
	ripe(18, 10).is(t, same, parts(same, 0))
	ripe(19, 10).is(t, same, parts(same, 300))
}

// TestRipeApart: P14.3: what is appended to one of the lists does not show in the other one, nor in the queue.
func TestRipeApart(t *testing.T) {
	for n := range 4 {
		s := bare(2, 1)
		l := append(make([]api.Entry, 0, 10), entry(0, s, 1, 1), entry(1, s, 2, 2), entry(2, s, 3, 3))
		h := []int{2, 3, 4, 5}[n]
		got := ripe(h, 2).ask(l)
		ripe, left := slices.Clone(got.ripe), slices.Clone(got.queue)
		if len(ripe) != n {
			t.Fatalf("%d are ripe; want %d", len(ripe), n)
		}
		a, b := append(got.ripe, entry(9, s, 9, 9)), append(got.queue, entry(8, s, 8, 8))
		c, d := append(got.ripe, entry(7, s, 7, 7), entry(7, s, 7, 7), entry(7, s, 7, 7)), append(l, entry(6, s, 6, 6))
		for i, x := range [][2][]api.Entry{
			{got.ripe, ripe}, {got.queue, left}, {l, slices.Concat(ripe, left)},
			{a[:n], ripe}, {b[:3-n], left}, {c[:n], ripe}, {d[:3], slices.Concat(ripe, left)},
		} {
			if !slices.Equal(x[0], x[1]) {
				t.Errorf("%d ripe, %d: %v; want %v", n, i, x[0], x[1])
			}
		}
		if b[3-n].Owner != 8 || d[3].Owner != 6 {
			t.Errorf("%d ripe: what was appended is lost: %v, %v", n, b, d)
		}
	}
}
