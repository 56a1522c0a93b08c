package hop_test

import (
	"slices"
	"testing"

	"distraint/api"
	"distraint/hop"
)

// isList: a list that was told is one of hops.
func isList(t *testing.T, l []api.Hop) {
	t.Helper()
	if err, at := checked(l); err != api.OK {
		t.Fatalf("%s is none of hops: %v at %d", brief(l), err, at)
	}
	if err, at := hop.Check(l); err != api.OK || at != 0 {
		t.Fatalf("Check(%s): %v, %d", brief(l), err, at)
	}
}

// TestMaturity: P15.5: a hop that was added at c is mature at c + unbonding and not before, whatever else is in the list.
func TestMaturity(t *testing.T) {
	r := source(3)
	for range 4000 {
		l := drawn(r)
		created := min(top, newest(l)+r.IntN(5))
		x := one(9, 1, 2, created)
		l, err := hop.Add(l, x, 1)
		if err != api.OK {
			t.Fatalf("Add(%v): %v", x, err)
		}
		unbonding := several(r, longest)
		for _, h := range []int{created, created + unbonding - 1, created + unbonding, created + unbonding + 1, top} {
			if h > top {
				continue
			}
			before, after, err := hop.Ripe(l, h, unbonding)
			if err != api.OK || slices.Contains(before, x) != (h >= created+unbonding) || slices.Contains(after, x) != (h < created+unbonding) {
				t.Fatalf("Ripe(%v, %d, %d): %v, %v, %v", l, h, unbonding, before, after, err)
			}
		}
	}
}

// TestRipeParts: P15.5: the mature hops are a prefix of the list, the others the rest of it; each part is a list, of hops that are mature, or not. Next tells the first height at which there is a mature one.
func TestRipeParts(t *testing.T) {
	r := source(4)
	some := 0
	for range 6000 {
		l := drawn(r)
		h, unbonding := 1+r.IntN(30), 1+r.IntN(12)
		before, after, err := hop.Ripe(l, h, unbonding)
		if err != api.OK || !slices.Equal(slices.Concat(before, after), l) {
			t.Fatalf("Ripe(%v, %d, %d): %v, %v, %v", l, h, unbonding, before, after, err)
		}
		isList(t, before)
		isList(t, after)
		for _, x := range before {
			if h < x.Created+unbonding {
				t.Fatalf("Ripe(%v, %d, %d): %v is ripe", l, h, unbonding, x)
			}
		}
		for _, x := range after {
			if h >= x.Created+unbonding {
				t.Fatalf("Ripe(%v, %d, %d): %v is left", l, h, unbonding, x)
			}
		}
		if first, is := hop.Next(l, unbonding); is != (len(l) > 0) || is && (first <= h) != (len(before) > 0) {
			t.Fatalf("Next(%v, %d): %d, %v; at %d %v are ripe", l, unbonding, first, is, h, before)
		}
		if len(before) > 0 && len(after) > 0 {
			some++
		}
	}
	if some < 500 {
		t.Errorf("only %d were parted", some)
	}
}

// TestRipeSteps: P15.5: a height that is reached in several steps, by any heights between, leaves and tells the same hops as one step.
func TestRipeSteps(t *testing.T) {
	r := source(5)
	for range 4000 {
		l := drawn(r)
		unbonding, end := 1+r.IntN(12), 1+r.IntN(40)
		want := ripe(end, unbonding).ask(l)
		var steps []int
		for range r.IntN(6) {
			steps = append(steps, 1+r.IntN(end))
		}
		slices.Sort(steps)
		var before []api.Hop
		left := l
		for _, h := range append(steps, end) {
			now := ripe(h, unbonding)
			now.holds(t, left)
			got := now.ask(left)
			before, left = append(before, got.ripe...), got.hops
		}
		if !slices.Equal(before, want.ripe) || !slices.Equal(left, want.hops) {
			t.Fatalf("%v, by %v to %d with %d: %v, %v; want %v", l, steps, end, unbonding, before, left, want)
		}
	}
}

// crowded tells the most hops of one Owner, Src and Dst.
func crowded(l []api.Hop) (n int) {
	for _, x := range l {
		n = max(n, wantCount(l, x.Owner, x.Src, x.Dst).n)
	}
	return n
}

// TestWalks: P15.5: drawn Adds with the same most, with Ripes between them, some heights apart: there are never more hops of one Owner, Src and Dst than that, each is told once, when it is mature, and all that is told is a list of hops.
func TestWalks(t *testing.T) {
	r := source(6)
	count := map[api.Errno]int{}
	for walk := range 96 {
		limit, unbonding := 1+walk%16, 1+r.IntN(20)
		var l, added, told []api.Hop
		last := 0
		for h := 1; h < 80; h++ {
			for range r.IntN(16) {
				more := add(way(r, h), limit)
				more.holds(t, l)
				got := more.ask(l)
				count[got.err]++
				if got.err == api.OK {
					l = got.hops
					added = append(added, l[len(l)-1])
				}
			}
			isList(t, l)
			if n := crowded(l); n > limit {
				t.Fatalf("%d hops of one way; at most %d", n, limit)
			}
			if walk%2 == 0 && r.IntN(3) > 0 {
				continue // the height is passed without a Ripe
			}
			before, left, err := hop.Ripe(l, h, unbonding)
			if err != api.OK {
				t.Fatalf("Ripe(%v): %v", l, err)
			}
			for _, x := range before {
				if x.Created+unbonding > h || x.Created+unbonding <= last {
					t.Fatalf("%v is ripe at %d, and was not at %d", x, h, last)
				}
			}
			l, last = left, h
			told = append(told, before...)
			if !slices.Equal(slices.Concat(told, l), added) {
				t.Fatalf("%v are ripe, %v are left of %v", told, l, added)
			}
		}
	}
	for _, err := range []api.Errno{api.OK, api.ErrCap} {
		if count[err] < 500 {
			t.Errorf("%v: only %d", err, count[err])
		}
	}
}

// TestAddsDrawn: P15.2: drawn hops, of which some numbers are drawn from around their bounds, by the chapter's words.
func TestAddsDrawn(t *testing.T) {
	r := source(7)
	count := map[api.Errno]int{}
	each := spoilers()
	for range 15000 {
		l := drawn(r)
		x := way(r, newest(l)+r.IntN(4))
		if r.IntN(5) == 0 {
			each[r.IntN(len(each))].spoil(&x, newest(l))
		}
		c := add(x, []int{0, 1, 1, 1, 2, 16, 17}[r.IntN(7)])
		c.holds(t, l)
		count[c.ask(l).err]++
	}
	for _, err := range []api.Errno{api.OK, api.ErrRange, api.ErrOrder, api.ErrCap} {
		if count[err] < 50 {
			t.Errorf("%v: only %d", err, count[err])
		}
	}
}

// TestAsksDrawn: P15.1 and P15.3: with drawn arguments around their bounds, by the chapter's words.
func TestAsksDrawn(t *testing.T) {
	r := source(8)
	for range 6000 {
		l := drawn(r)
		ripe(r.IntN(30)-1, r.IntN(15)-1).holds(t, l)
		next(r.IntN(15)-1).holds(t, l)
		count(r.IntN(5)-1, r.IntN(5)-1, r.IntN(5)-1).holds(t, l)
		into(r.IntN(5)-1, r.IntN(5)-1).holds(t, l)
		encoding().holds(t, l)
	}
}
