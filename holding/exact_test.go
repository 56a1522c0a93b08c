package holding_test

import (
	"math/big"
	"math/rand/v2"
	"testing"

	"distraint/api"
	"distraint/holding"
	"distraint/stamp"
)

// worth tells the exact worth of each position of a valid holding, by its owner and stamp.
func worth(h api.Holding) map[api.Position]*big.Rat {
	x := modelOf(h)
	l := map[api.Position]*big.Rat{}
	for p, shares := range x.parts {
		pool := x.pools[p.Stamp]
		l[p] = new(big.Rat).SetFrac(new(big.Int).Mul(whole(shares), whole(pool.Tokens)), whole(pool.Shares))
	}
	return l
}

func minus(a, b *big.Rat) *big.Rat { return new(big.Rat).Sub(a, b) }

// within tells whether r is from 0 to just below n.
func within(r *big.Rat, n int64) bool { return r.Sign() >= 0 && r.Cmp(big.NewRat(n, 1)) < 0 }

// sumOf tells all tokens of h, which is valid; so does All.
func sumOf(t *testing.T, h api.Holding) *big.Int {
	t.Helper()
	n, err := holding.All(h)
	if err != api.OK || whole(n).Cmp(supply(h)) != 0 {
		t.Fatalf("All(%v): %d, %v; want %v", h, n, err, supply(h))
	}
	return whole(n)
}

// moved: from before to after, so many tokens came (or went), all of them to (or from) the class of s.
func moved(t *testing.T, before, after api.Holding, s api.Stamp, n *big.Int) {
	t.Helper()
	if is := new(big.Int).Sub(sumOf(t, after), sumOf(t, before)); is.Cmp(n) != 0 {
		t.Fatalf("%v, then %v: %v came; want %v", before, after, is, n)
	}
	is, _ := holding.Find(after, s)
	was, _ := holding.Find(before, s)
	if new(big.Int).Sub(whole(is.Tokens), whole(was.Tokens)).Cmp(n) != 0 {
		t.Fatalf("%v, then %v: not the class %v alone changed by %v", before, after, s, n)
	}
}

// change is a drawn Join or Leave of one owner in one class, and the holding after it, if it was not refused.
type change struct {
	owner int
	s     api.Stamp
	after api.Holding
	ok    bool
}

// steps makes a drawn change; what it reports is what came or went.
func steps(t *testing.T, r *rand.Rand, h api.Holding) change {
	t.Helper()
	owner, s, n := arguments(r, h)
	if r.IntN(2) == 0 {
		after, value, err := holding.Leave(h, owner, s, n)
		if err == api.OK {
			moved(t, h, after, s, new(big.Int).Neg(whole(value)))
		}
		return change{owner, s, after, err == api.OK}
	}
	n = 1 + (n-1)>>r.IntN(40) // so that not all is joined at once
	after, _, err := holding.Join(h, owner, s, n)
	if err == api.OK {
		moved(t, h, after, s, whole(n))
	}
	return change{owner, s, after, err == api.OK}
}

// since is the exact worth of a position at some time, and how often others joined or left since then.
type since struct {
	worth *big.Rat
	n     int64
}

// watch is what is known of each position.
type watch map[api.Position]since

// begins knows each position as it is now.
func (w watch) begins(h api.Holding) {
	clear(w)
	for p, x := range worth(h) {
		w[p] = since{x, 0}
	}
}

// others: after a change by one owner all other positions are worth no less than when the watch began, and more by less than 1 for each change since then. It tells whether one is worth more.
func (w watch) others(t *testing.T, c change) (more bool) {
	t.Helper()
	now := worth(c.after)
	mine := part(c.owner, c.s, 0)
	for p, x := range w {
		if p == mine {
			continue
		}
		x.n++
		if now[p] == nil || !within(minus(now[p], x.worth), x.n) {
			t.Fatalf("%v: the position %v was worth %v %d changes ago, and is worth %v", c.after, p, x.worth, x.n, now[p])
		}
		more = more || now[p].Cmp(x.worth) > 0
		w[p] = x
	}
	delete(w, mine)
	if now[mine] != nil {
		w[mine] = since{now[mine], 0}
	}
	if len(w) != len(now) {
		t.Fatalf("%v: positions came or went beside %v", c.after, mine)
	}
	return more
}

// evenly: a Cut took, from each position that had backed the validator, the billionths of its exact worth, or less by less than 1; nothing from any other; and all shares that are left are as they were. It tells how many positions had backed it.
func evenly(t *testing.T, before, after api.Holding, validator, height int, ppb uint64) (backed int) {
	t.Helper()
	was, is := worth(before), worth(after)
	asked := new(big.Rat).SetFrac(whole(ppb), whole(1000000000))
	for p, x := range was {
		now := is[p]
		if now == nil {
			now = new(big.Rat)
		}
		if !stamp.Backed(p.Stamp, validator, height, 0) {
			if now.Cmp(x) != 0 {
				t.Fatalf("Cut(%v, %d, %d, %d): %v was worth %v, and is worth %v", before, validator, height, ppb, p, x, now)
			}
			continue
		}
		backed++
		if spared := minus(new(big.Rat).Mul(x, asked), minus(x, now)); !within(spared, 1) {
			t.Fatalf("Cut(%v, %d, %d, %d): %v was worth %v, and is worth %v", before, validator, height, ppb, p, x, now)
		}
	}
	shares := modelOf(before)
	for p, n := range modelOf(after).parts {
		if shares.parts[p] != n {
			t.Fatalf("Cut(%v, %d, %d, %d): %v has %d shares", before, validator, height, ppb, p, n)
		}
	}
	for s, p := range modelOf(after).pools {
		if shares.pools[s].Shares != p.Shares {
			t.Fatalf("Cut(%v, %d, %d, %d): %v has %d shares", before, validator, height, ppb, s, p.Shares)
		}
	}
	return backed
}

// cutsAway makes a drawn Cut: what is reported is what went, class by class, and in all.
func cutsAway(t *testing.T, r *rand.Rand, h api.Holding) (after api.Holding, backed int) {
	t.Helper()
	validator, height, ppb := r.IntN(4), 1+r.IntN(8), r.Uint64N(1<<r.IntN(31))
	if ppb > all || r.IntN(8) == 0 {
		ppb = all
	}
	after, losses, sum, err := holding.Cut(h, validator, height, ppb)
	if err != api.OK {
		t.Fatalf("Cut(%v, %d, %d, %d): %v", h, validator, height, ppb, err)
	}
	if is := new(big.Int).Sub(sumOf(t, h), sumOf(t, after)); is.Cmp(whole(sum)) != 0 {
		t.Fatalf("Cut(%v, %d, %d, %d): %v went; want %d", h, validator, height, ppb, is, sum)
	}
	lost := map[api.Stamp]uint64{}
	for _, x := range losses {
		lost[x.Stamp] = x.Amount
	}
	for _, c := range h.Classes {
		if p, _ := holding.Find(after, c.Stamp); c.Pool.Tokens-p.Tokens != lost[c.Stamp] {
			t.Fatalf("Cut(%v, %d, %d, %d): %v has %d; %d were reported", h, validator, height, ppb, c.Stamp, p.Tokens, lost[c.Stamp])
		}
	}
	return after, evenly(t, h, after, validator, height, ppb)
}

// TestWalks: P13.7 to P13.9: walks of Joins and Leaves, with a Cut now and then, from drawn holdings: tokens come and go as reported, a Cut is even, and nobody loses by what others do, or gains more than rounding does.
func TestWalks(t *testing.T) {
	r := source(9)
	changes, more, backed := 0, 0, 0
	for range 200 {
		h, w := drawn(r), watch{}
		w.begins(h)
		for range 60 {
			if r.IntN(12) == 0 {
				after, n := cutsAway(t, r, h)
				h, backed = after, backed+n
				w.begins(h)
			}
			c := steps(t, r, h)
			if !c.ok {
				continue
			}
			changes++
			if w.others(t, c) {
				more++
			}
			if h = c.after; holding.Check(h) != api.OK {
				t.Fatalf("%v: %v", h, holding.Check(h))
			}
		}
	}
	if changes < 4000 || more < 1000 || backed < 500 {
		t.Errorf("only %d changes, of which %d were rounded; %d positions were cut", changes, more, backed)
	}
}

// TestCutsEvenly: P13.7 and P13.8: drawn Cuts of drawn holdings.
func TestCutsEvenly(t *testing.T) {
	r := source(10)
	backed := 0
	for range 4000 {
		_, n := cutsAway(t, r, drawn(r))
		backed += n
	}
	if backed < 4000 {
		t.Errorf("only %d positions were cut", backed)
	}
}

// TestManyOthers: P13.9: one position among 63 others, who join and leave for many times.
func TestManyOthers(t *testing.T) {
	r := source(11)
	s := bare(2, 5)
	h := of(classes(class(s, 700, 1000)), part(40, s, 1000))
	was := worth(h)[part(40, s, 0)]
	n := int64(0)
	for n < 3000 {
		owner := r.IntN(64)
		if owner == 40 {
			continue
		}
		after, _, err := holding.Join(h, owner, s, amount(r, 1000))
		if x := modelOf(h).parts[part(owner, s, 0)]; x > 0 && r.IntN(2) == 0 {
			after, _, err = holding.Leave(h, owner, s, amount(r, x))
		}
		if err != api.OK {
			continue
		}
		h, n = after, n+1
		if now := worth(h)[part(40, s, 0)]; !within(minus(now, was), n) {
			t.Fatalf("after %d changes %v is %v", n, was, now)
		}
	}
	if worth(h)[part(40, s, 0)].Cmp(was) == 0 {
		t.Error("nothing was rounded")
	}
}
