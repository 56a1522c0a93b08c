package queue_test

import (
	"math/big"
	"math/rand/v2"
	"slices"
	"testing"

	"distraint/api"
	"distraint/queue"
	"distraint/stamp"
)

// isQueue: a list that was told is a queue.
func isQueue(t *testing.T, l []api.Entry) {
	t.Helper()
	if err, at := checked(l); err != api.OK {
		t.Fatalf("%s is no queue: %v at %d", brief(l), err, at)
	}
	if err, at := queue.Check(l); err != api.OK || at != 0 {
		t.Fatalf("Check(%s): %v, %d", brief(l), err, at)
	}
}

// TestMaturity: P14.7: an entry that was added at c is mature at c + unbonding and not before, whatever else is in the queue.
func TestMaturity(t *testing.T) {
	r := source(3)
	for range 4000 {
		l := drawn(r)
		created := newest(l) + r.IntN(5)
		x := entry(9, history(r, created), created, amount(r, 1000))
		l, err := queue.Add(l, x, 1)
		if err != api.OK {
			t.Fatalf("Add(%v): %v", x, err)
		}
		unbonding := int(amount(r, 1<<20))
		for _, h := range []int{created, created + unbonding - 1, created + unbonding, created + unbonding + 1, top} {
			before, after, err := queue.Ripe(l, h, unbonding)
			if err != api.OK || slices.Contains(before, x) != (h >= created+unbonding) || slices.Contains(after, x) != (h < created+unbonding) {
				t.Fatalf("Ripe(%v, %d, %d): %v, %v, %v", l, h, unbonding, before, after, err)
			}
		}
	}
}

// TestRipeParts: P14.7: the two lists are the queue, one after the other; each is a queue, of entries that are mature, or not.
func TestRipeParts(t *testing.T) {
	r := source(4)
	some := 0
	for range 6000 {
		l := drawn(r)
		h, unbonding := 1+r.IntN(30), 1+r.IntN(12)
		before, after, err := queue.Ripe(l, h, unbonding)
		if err != api.OK || !slices.Equal(slices.Concat(before, after), l) {
			t.Fatalf("Ripe(%v, %d, %d): %v, %v, %v", l, h, unbonding, before, after, err)
		}
		isQueue(t, before)
		isQueue(t, after)
		for _, x := range before {
			if h < x.Created+unbonding {
				t.Fatalf("Ripe(%v, %d, %d): %v is ripe", l, h, unbonding, x)
			}
		}
		for _, x := range after {
			if h >= x.Created+unbonding {
				t.Fatalf("Ripe(%v, %d, %d): %v is left", l, h, unbonding, x)
			}
		}
		if len(before) > 0 && len(after) > 0 {
			some++
		}
	}
	if some < 500 {
		t.Errorf("only %d were parted", some)
	}
}

// exact: of each Balance, ppb billionths were taken, or less by less than 1, if the entry backed v at h, and nothing otherwise; all else is as it was.
func exact(t *testing.T, l, after []api.Entry, v, h int, ppb uint64) {
	t.Helper()
	if len(after) != len(l) {
		t.Fatalf("%d entries of %d", len(after), len(l))
	}
	for i, x := range l {
		if cutTo(after[i], 0) != cutTo(x, 0) {
			t.Fatalf("%v was %v", after[i], x)
		}
		taken := new(big.Int).Sub(whole(x.Balance), whole(after[i].Balance))
		if !stamp.Backed(x.Stamp, v, h, x.Created) {
			if taken.Sign() != 0 {
				t.Fatalf("%v of %v, which did not back %d at %d", taken, x, v, h)
			}
			continue
		}
		// What is missing to the exact part, in billionths.
		missing := new(big.Int).Mul(whole(x.Balance), whole(ppb))
		missing.Sub(missing, taken.Mul(taken, whole(all)))
		if missing.Sign() < 0 || missing.Cmp(whole(all)) >= 0 {
			t.Fatalf("%v is left of %v, of which %d billionths were cut", after[i].Balance, x, ppb)
		}
	}
}

// billionths draws how much is cut.
func billionths(r *rand.Rand) uint64 {
	return []uint64{0, 1, all / 2, all - 1, all, r.Uint64N(all + 1), amount(r, all)}[r.IntN(7)]
}

// TestCutExact: P14.8: on drawn queues; the parts that are told are those that were taken.
func TestCutExact(t *testing.T) {
	r := source(5)
	some := 0
	for range 30000 {
		l := drawn(r)
		v, h, ppb := r.IntN(5), 1+r.IntN(20), billionths(r)
		after, shaves, sum, err := queue.Cut(l, v, h, ppb)
		if err != api.OK {
			t.Fatalf("Cut(%v, %d, %d, %d): %v", l, v, h, ppb, err)
		}
		isQueue(t, after)
		exact(t, l, after, v, h, ppb)
		var want []api.Shave
		for i, x := range l {
			if stamp.Backed(x.Stamp, v, h, x.Created) {
				want = append(want, shave(i, x.Balance-after[i].Balance))
			}
		}
		if !slices.Equal(shaves, want) || new(big.Int).Add(sumOf(after), whole(sum)).Cmp(sumOf(l)) != 0 {
			t.Fatalf("Cut(%v, %d, %d, %d): %v, %v, %d", l, v, h, ppb, after, shaves, sum)
		}
		some += len(shaves)
	}
	if some < 5000 {
		t.Errorf("only %d entries were cut", some)
	}
}

// crowded tells the most entries that an owner has of a validator.
func crowded(l []api.Entry) (n int) {
	for owner := range 64 {
		for v := range 32 {
			n = max(n, queue.Live(l, owner, v))
		}
	}
	return n
}

// TestWalks: P14.7 and P14.8: drawn Adds with the same most, with Ripes and Cuts between them: there are never more live entries than that, each is paid once, at its height, with its Initial less its cuts, and all that is told is a queue.
func TestWalks(t *testing.T) {
	r := source(6)
	refusals := map[api.Errno]int{}
	for walk := range 60 {
		limit, unbonding := 1+walk%16, 1+r.IntN(20)
		var l []api.Entry
		in, out := new(big.Int), new(big.Int)
		for h := 1; h < 60; h++ {
			for range r.IntN(12) {
				x := entry(r.IntN(3), history(r, h), h, amount(r, most/64))
				added := add(x, limit)
				added.holds(t, l)
				got := added.ask(l)
				refusals[got.err]++
				if got.err == api.OK {
					l = got.queue
					in.Add(in, whole(x.Initial))
				}
			}
			v, at, ppb := r.IntN(4), 1+r.IntN(h), billionths(r)/4
			after, _, sum, err := queue.Cut(l, v, at, ppb)
			if err != api.OK {
				t.Fatalf("Cut(%v): %v", l, err)
			}
			exact(t, l, after, v, at, ppb)
			out.Add(out, whole(sum))
			before, left, err := queue.Ripe(after, h, unbonding)
			if err != api.OK {
				t.Fatalf("Ripe(%v): %v", after, err)
			}
			for _, x := range before {
				if x.Created+unbonding != h {
					t.Fatalf("%v is ripe at %d", x, h)
				}
			}
			out.Add(out, sumOf(before))
			l = left
			isQueue(t, l)
			if n := crowded(l); n > limit {
				t.Fatalf("%d live entries; at most %d", n, limit)
			}
			if new(big.Int).Sub(in, out).Cmp(sumOf(l)) != 0 {
				t.Fatalf("%v of %v went, and %v is left", out, in, sumOf(l))
			}
		}
	}
	for _, err := range []api.Errno{api.OK, api.ErrCap} {
		if refusals[err] < 500 {
			t.Errorf("%v: only %d", err, refusals[err])
		}
	}
}

// TestAddsDrawn: P14.2: drawn entries, of which some numbers are drawn from around their bounds, by the chapter's words.
func TestAddsDrawn(t *testing.T) {
	r := source(7)
	count := map[api.Errno]int{}
	each := spoilers()
	for range 15000 {
		l := drawn(r)
		h := newest(l) + r.IntN(4)
		x := entry(r.IntN(4), history(r, h), h, amount(r, most))
		switch r.IntN(10) {
		case 0:
			each[r.IntN(len(each))].spoil(&x, newest(l))
		case 3:
			x.Initial, x.Balance = 0, r.Uint64N(2)
		case 4:
			x.Initial = most/2 + r.Uint64N(most)
			x.Balance = x.Initial
		case 1:
			x.Balance -= amount(r, x.Balance)
		case 2:
			x.Initial += amount(r, m-x.Initial)
		}
		limit := []int{0, 1, 1, 1, 2, 16, 17}[r.IntN(7)]
		c := add(x, limit)
		c.holds(t, l)
		count[c.ask(l).err]++
	}
	for _, err := range []api.Errno{api.OK, api.ErrRange, api.ErrOrder, api.ErrDust, api.ErrState, api.ErrCap, api.ErrOver} {
		if count[err] < 50 {
			t.Errorf("%v: only %d", err, count[err])
		}
	}
}

// TestRipesAndCutsDrawn: P14.3 and P14.4: with drawn arguments around their bounds, by the chapter's words.
func TestRipesAndCutsDrawn(t *testing.T) {
	r := source(8)
	for range 6000 {
		l := drawn(r)
		ripe(r.IntN(30)-1, r.IntN(15)-1).holds(t, l)
		cut(r.IntN(6)-1, r.IntN(20)-1, billionths(r)+amount(r, 3)-1).holds(t, l)
		live(r.IntN(6)-1, r.IntN(6)-1).holds(t, l)
		belonging(r.IntN(6)-1).holds(t, l)
		total().holds(t, l)
		encoding().holds(t, l)
	}
}
