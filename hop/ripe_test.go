package hop_test

import (
	"slices"
	"testing"

	"distraint/api"
)

// parts tells a list of which the first n hops are ripe.
func parts(l []api.Hop, n int) told { return told{ripe: l[:n], hops: l[n:]} }

// TestRipe: P15.3, written out: at each side of the height at which a hop is mature; hops that have the same Created are so together.
func TestRipe(t *testing.T) {
	l := list(one(0, 1, 2, 3), one(1, 1, 2, 3), one(0, 1, 2, 3), one(0, 2, 1, 4), one(0, 1, 2, 9), one(63, 31, 30, 9), one(2, 3, 4, 20))
	for _, x := range []struct{ h, unbonding, ripe int }{
		{1, 1, 0}, {3, 1, 0}, {4, 1, 3}, {5, 1, 4}, {9, 1, 4}, {10, 1, 6}, {20, 1, 6}, {21, 1, 7}, {22, 1, 7}, {top, 1, 7},
		{12, 10, 0}, {13, 10, 3}, {14, 10, 4}, {18, 10, 4}, {19, 10, 6}, {29, 10, 6}, {30, 10, 7},
		{4, 2, 0}, {5, 2, 3}, {6, 3, 3}, {6, 4, 0}, {30, 27, 3}, {30, 26, 4}, {30, 28, 0}, {30, 21, 6}, {30, 22, 4},
		{longest, longest, 0}, {longest + 2, longest, 0}, {longest + 3, longest, 3}, {longest + 4, longest, 4}, {longest + 19, longest, 6}, {longest + 20, longest, 7}, {top, longest, 7},
		{1, longest, 0}, {1, 2, 0}, {9, 10, 0}, {10, 10, 0}, {11, 10, 0},
	} {
		ripe(x.h, x.unbonding).is(t, l, parts(l, x.ripe))
	}
}

// TestRipeNone: P15.3: of no hop, all heights are the same.
func TestRipeNone(t *testing.T) {
	for _, h := range []int{1, 2, longest, top - 1, top} {
		for _, unbonding := range []int{1, 2, longest - 1, longest} {
			ripe(h, unbonding).is(t, nil, told{})
			ripe(h, unbonding).is(t, []api.Hop{}, told{})
		}
	}
}

// TestRipeOne: P15.3: a hop alone, at the ends of all heights. What is created so late that it would be mature behind the last height is never so.
func TestRipeOne(t *testing.T) {
	for _, created := range []int{1, 2, longest, top - longest, top - longest + 1, top - 1, top} {
		l := list(one(63, 31, 30, created))
		for _, unbonding := range []int{1, 2, longest - 1, longest} {
			at := created + unbonding
			for _, h := range []int{1, created, at - 2, at - 1, at, at + 1, top - 1, top} {
				switch {
				case h < 1 || h > top:
					ripe(h, unbonding).is(t, l, refused(api.ErrRange))
				case h < at:
					ripe(h, unbonding).is(t, l, parts(l, 0))
				default:
					ripe(h, unbonding).is(t, l, parts(l, 1))
				}
			}
		}
	}
}

// TestRipeBounds: P15.3: height and unbonding just, and far, out of their bounds.
func TestRipeBounds(t *testing.T) {
	for _, l := range some() {
		for _, h := range timeless() {
			for _, unbonding := range []int{-1, 0, 1, 10, longest, longest + 1} {
				ripe(h, unbonding).is(t, l, refused(api.ErrRange))
			}
		}
		for _, unbonding := range endless() {
			for _, h := range []int{1, 19, top} {
				ripe(h, unbonding).is(t, l, refused(api.ErrRange))
			}
		}
		for _, h := range []int{1, top} {
			for _, unbonding := range []int{1, longest} {
				if got := ripe(h, unbonding).ask(l); got.err != api.OK {
					t.Errorf("Ripe(%s, %d, %d): %v", brief(l), h, unbonding, got.err)
				}
			}
		}
	}
}

// TestRipeLong: P15.3: each place at which a long list can be parted, as far as Created differs.
func TestRipeLong(t *testing.T) {
	l := long(300) // ten hops of each height from 1 to 30
	for n := range 31 {
		ripe(n+5, 5).is(t, l, parts(l, 10*n))
	}
	l = long(4096)
	for _, n := range []int{0, 1, 204, 409} {
		ripe(n+5, 5).is(t, l, parts(l, 10*n))
	}
	ripe(414, 5).is(t, l, parts(l, 4090))
	ripe(415, 5).is(t, l, parts(l, 4096))
	alike := repeated(300, one(0, 1, 2, 9))
	ripe(18, 10).is(t, alike, parts(alike, 0))
	ripe(19, 10).is(t, alike, parts(alike, 300))
}

// TestRipeEach: P15.3: lists of hops of which each was created later than the one before, parted at each place.
func TestRipeEach(t *testing.T) {
	for size := range 20 {
		var l []api.Hop
		for i := range size {
			l = append(l, one(i, 1, 2, 3+2*i))
		}
		for n := range size {
			ripe(l[n].Created+7, 7).is(t, l, parts(l, n+1))
			ripe(l[n].Created+6, 7).is(t, l, parts(l, n))
		}
	}
}

// TestRipeApart: P15.3: what is appended to one of the lists does not show in the other one, nor in the list that was passed.
func TestRipeApart(t *testing.T) {
	for n := range 4 {
		l := append(make([]api.Hop, 0, 10), one(0, 1, 2, 1), one(1, 1, 2, 2), one(2, 1, 2, 3))
		got := ripe(2+n, 2).ask(l)
		ripe, left := slices.Clone(got.ripe), slices.Clone(got.hops)
		if len(ripe) != n {
			t.Fatalf("%d are ripe; want %d", len(ripe), n)
		}
		x := one(9, 9, 9, 9)
		a, b := append(got.ripe, x), append(got.hops, one(8, 8, 8, 8))
		c, d := append(got.ripe, x, x, x), append(l, one(6, 6, 6, 6))
		for i, x := range [][2][]api.Hop{
			{got.ripe, ripe}, {got.hops, left}, {l, slices.Concat(ripe, left)},
			{a[:n], ripe}, {b[:3-n], left}, {c[:n], ripe}, {d[:3], slices.Concat(ripe, left)},
		} {
			if !slices.Equal(x[0], x[1]) {
				t.Errorf("%d ripe, %d: %v; want %v", n, i, x[0], x[1])
			}
		}
		if b[3-n].Owner != 8 || d[3].Owner != 6 {
			t.Errorf("%d ripe: what was appended is lost: %v, %v", n, b, d)
		}
	}
}

// TestRipeSpare: P15.3: behind what is told is nothing else that was made on the way.
func TestRipeSpare(t *testing.T) {
	for _, l := range valids() {
		for _, h := range []int{1, 20, top} {
			got := ripe(h, 10).ask(l)
			for _, x := range [][]api.Hop{got.ripe, got.hops} {
				for _, y := range x[len(x):cap(x)] {
					if y != (api.Hop{}) {
						t.Errorf("behind %s is %v", brief(x), y)
					}
				}
			}
		}
	}
}
