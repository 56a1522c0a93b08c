package stake_test

import (
	"fmt"
	"math/big"
	"math/rand/v2"
	"testing"

	"distraint/api"
	"distraint/bank"
	"distraint/stake"
)

// drawnCall draws an operation with arguments around those that the ledger x allows.
func drawnCall(r *rand.Rand, x api.Ledger) (kind string, c call) {
	from, to := drawnNumber(r, len(x.Bank.Liquid)), drawnNumber(r, len(x.Bank.Liquid))
	v, u := drawnNumber(r, len(x.Validators)), drawnNumber(r, len(x.Validators))
	has := uint64(9)
	if from >= 0 && from < len(x.Bank.Liquid) {
		has = x.Bank.Liquid[from]
	}
	p := part(from, bare(v, max(x.Height-r.IntN(5), 1)), 9)
	if l := x.Holding.Positions; len(l) > 0 && r.IntN(10) > 0 {
		p = l[r.IntN(len(l))]
	}
	switch r.IntN(14) {
	case 0:
		return "transfer", transfer(from, to, drawnPart(r, has))
	case 1:
		minSelf := drawnPart(r, has/4)
		return "create", create(from, minSelf, minSelf+drawnPart(r, has/2)-uint64(r.IntN(2)))
	case 2, 3:
		return "delegate", delegate(from, v, drawnPart(r, has))
	case 4, 5:
		return "undelegate", undelegate(p.Owner, p.Stamp, drawnPart(r, p.Shares))
	case 6, 7:
		return "redelegate", redelegate(p.Owner, p.Stamp, drawnPart(r, p.Shares), u)
	case 8:
		if v >= 0 && v < len(x.Validators) && r.IntN(3) > 0 {
			from = x.Validators[v].Operator
		}
		return "unjail", unjail(from, v)
	case 9:
		return "cut", cut(v, x.Height+1-r.IntN(8), drawnBillionths(r), drawnBillionths(r))
	case 10:
		return "punish", punish(v, []int{1, 2, 2, 2, 0, 3}[r.IntN(6)])
	case 11:
		return "grant", grant(to, drawnPart(r, x.Bank.Pools[api.PoolReward]))
	}
	return "tick", tick()
}

// drawnNumber draws one of n, now and then one beside them.
func drawnNumber(r *rand.Rand, n int) int {
	if n == 0 || r.IntN(20) == 0 {
		return r.IntN(n+2) - 1
	}
	return r.IntN(n)
}

// drawnPart draws an amount around n: mostly less.
func drawnPart(r *rand.Rand, n uint64) uint64 {
	switch r.IntN(12) {
	case 0:
		return 0
	case 1:
		return 1
	case 2:
		return n
	case 3:
		return n + 1
	case 4:
		return n - min(n, 1)
	}
	return r.Uint64N(n/2 + 1)
}

func drawnBillionths(r *rand.Rand) uint64 {
	if r.IntN(3) == 0 {
		return []uint64{0, 1, all / 2, all, all + 1}[r.IntN(5)]
	}
	return r.Uint64N(all + 1)
}

// walk is a stake, its ledger by the model, and what the chapter's promises are about: the supply, what is burned, and of each entry what is left of it, in order.
type walk struct {
	s      *stake.Stake
	x      api.Ledger
	supply uint64
	queue  []api.Entry
	count  map[string]int
}

func begun(t *testing.T, s *stake.Stake, count map[string]int) *walk {
	t.Helper()
	x := s.Save()
	sum, err := bank.Supply(x.Bank)
	if err != api.OK {
		t.Fatal(err)
	}
	return &walk{s, x, sum, copied(x).Entries, count}
}

// goes: a drawn operation does what the model does, and P18.4 to P18.7 hold for it, whatever the model says.
func (w *walk) goes(t *testing.T, r *rand.Rand) {
	t.Helper()
	kind, c := drawnCall(r, w.x)
	want, after := c.model(w.x)
	got := c.ask(w.s)
	before, now := w.x, w.s.Save()
	if !got.same(want) || !same(now, after) {
		t.Fatalf("%s of %s: %+v and %s; want %+v and %s", c.name, brief(before), got, brief(now), want, brief(after))
	}
	w.count[fmt.Sprint(kind, " ", int(got.err))]++
	w.x = now
	w.keeps(t, c.name, before, got)
	if got.err == api.OK {
		w.entries(t, kind, got)
		w.caps(t, kind, before)
	}
	switch {
	case got.err != api.OK:
	case kind == "tick":
		chosen(t, now)
	case kind == "cut":
		c.cutRightly(t, before, now, got.toll)
	}
}

// keeps: P18.4: the ledger is valid, its supply stays, what is burned stays burned, and what is refused changes nothing.
func (w *walk) keeps(t *testing.T, name string, before api.Ledger, got told) {
	t.Helper()
	if err := stake.Check(w.x); err != api.OK {
		t.Fatalf("%s: %v of %s", name, err, brief(w.x))
	}
	if sum, err := bank.Supply(w.x.Bank); sum != w.supply || err != api.OK {
		t.Fatalf("%s: %d, %v; want %d", name, sum, err, w.supply)
	}
	if w.x.Bank.Pools[api.PoolBurned] < before.Bank.Pools[api.PoolBurned] {
		t.Fatalf("%s: burned %v; before %v", name, w.x.Bank.Pools, before.Bank.Pools)
	}
	if got.err != api.OK && (!same(w.x, before) || !got.same(refused(got.err))) {
		t.Fatalf("%s: %+v, and %s; before %s", name, got, brief(w.x), brief(before))
	}
}

// entries: P18.5: what was undelegated is an entry, of which the cuts take what they tell, and the tick at Created + unbonding pays what is left.
func (w *walk) entries(t *testing.T, kind string, got told) {
	t.Helper()
	switch kind {
	case "undelegate":
		last := w.x.Entries[len(w.x.Entries)-1]
		if last.Initial != got.n || last.Balance != got.n || last.Created != w.x.Height {
			t.Fatalf("undelegated %d: %v", got.n, last)
		}
		w.queue = append(w.queue, last)
	case "cut":
		for _, lost := range got.toll.Entries {
			w.queue[lost.At].Balance -= lost.Amount
		}
	case "tick":
		for _, paid := range got.tock.Paid {
			if w.queue[0] != paid {
				t.Fatalf("paid at %d: %v; want %v", got.tock.Height, paid, w.queue[0])
			}
			if due := max(paid.Created+w.x.Params.Unbonding, got.tock.Height); due != got.tock.Height {
				t.Fatalf("paid at %d: %v", got.tock.Height, paid)
			}
			w.queue = w.queue[1:]
		}
		for _, e := range w.queue {
			if e.Created+w.x.Params.Unbonding <= got.tock.Height {
				t.Fatalf("not paid at %d: %v", got.tock.Height, e)
			}
		}
	}
}

// caps: P18.5: no owner has more live entries of a validator than Entries, nor more live hops between the same two, unless it had them to begin with.
func (w *walk) caps(t *testing.T, kind string, before api.Ledger) {
	t.Helper()
	entries, hops := map[[2]int]int{}, map[[3]int]int{}
	for _, e := range w.x.Entries {
		entries[[2]int{e.Owner, e.Stamp.Validator}]++
	}
	for _, h := range w.x.Hops {
		hops[[3]int{h.Owner, h.Src, h.Dst}]++
	}
	if last := len(w.x.Entries) - 1; kind == "undelegate" {
		if e := w.x.Entries[last]; entries[[2]int{e.Owner, e.Stamp.Validator}] > w.x.Params.Entries || last != len(before.Entries) {
			t.Fatalf("entries: %v", w.x.Entries)
		}
	}
	if last := len(w.x.Hops) - 1; kind == "redelegate" {
		if h := w.x.Hops[last]; hops[[3]int{h.Owner, h.Src, h.Dst}] > w.x.Params.Entries || last != len(before.Hops) {
			t.Fatalf("hops: %v", w.x.Hops)
		}
	}
}

// chosen: P18.7: each active validator is free and has tokens; they are as many as there may be, and no other one that is free is richer.
func chosen(t *testing.T, x api.Ledger) {
	t.Helper()
	m := modelOf(x)
	tokens := m.tokens()
	active, eligible := 0, 0
	for v, y := range x.Validators {
		if m.isFree(v) && tokens[v] > 0 {
			eligible++
		}
		if y.Status != api.StatusActive {
			continue
		}
		active++
		if tokens[v] == 0 {
			t.Fatalf("active without tokens: %d of %s", v, brief(x))
		}
		for u, z := range x.Validators {
			if z.Status == api.StatusIdle && (tokens[u] > tokens[v] || tokens[u] == tokens[v] && u < v) {
				t.Fatalf("%d is richer than %d: %v, %v", u, v, tokens, x.Validators)
			}
		}
	}
	if active != min(eligible, x.Params.MaxActive) {
		t.Fatalf("%d of %d are active: %v", active, eligible, x.Validators)
	}
}

// cutRightly: P18.6: each class and each entry that backed v at h loses its part, and less than that by less than 1; all others keep what they had, and shares stay.
func (c call) cutRightly(t *testing.T, before, now api.Ledger, toll api.Toll) {
	t.Helper()
	after := modelOf(now)
	losses := 0
	for _, class := range before.Holding.Classes {
		left := after.pools[class.Stamp]
		if left.Tokens > 0 && left.Shares != class.Pool.Shares {
			t.Fatalf("%v: other shares: %v", class, left)
		}
		lost := uint64(0)
		if backed(class.Stamp, c.v, c.h, 0) {
			lost = toll.Classes[losses].Amount
			losses++
			isPart(t, class.Pool.Tokens, lost, c.ppb)
		}
		if class.Pool.Tokens-left.Tokens != lost {
			t.Fatalf("%v: lost %d: %v", class, lost, left)
		}
	}
	shaves := 0
	for i, e := range before.Entries {
		lost := uint64(0)
		if backed(e.Stamp, c.v, c.h, e.Created) {
			if toll.Entries[shaves].At != i {
				t.Fatalf("%v: %v", e, toll)
			}
			lost = toll.Entries[shaves].Amount
			shaves++
			isPart(t, e.Balance, lost, c.ppb)
		}
		e.Balance -= lost
		if now.Entries[i] != e {
			t.Fatalf("%v: lost %d: %v", e, lost, now.Entries[i])
		}
	}
	if losses != len(toll.Classes) || shaves != len(toll.Entries) {
		t.Fatalf("%s: %+v of %s", c.name, toll, brief(before))
	}
}

// isPart: lost is ppb billionths of n, or less by less than 1.
func isPart(t *testing.T, n, lost, ppb uint64) {
	t.Helper()
	exact := new(big.Rat).SetFrac(new(big.Int).Mul(number(n), number(ppb)), number(1000000000))
	rest := exact.Sub(exact, new(big.Rat).SetInt(number(lost)))
	if rest.Sign() < 0 || rest.Cmp(big.NewRat(1, 1)) >= 0 {
		t.Fatalf("%d of %d for %d billionths", lost, n, ppb)
	}
}

// TestWalks: P18.3 to P18.7: drawn operations, one after the other, of new stakes and of drawn ones, by the chapter's words.
func TestWalks(t *testing.T) {
	r := source(2)
	count := map[string]int{}
	for i := range 1000 {
		x := drawn(r)
		s := load(t, x)
		if i%2 == 0 {
			s, _ = stake.New(x.Params, x.Bank.Liquid)
		}
		w := begun(t, s, count)
		for range 150 {
			w.goes(t, r)
			if r.IntN(30) == 0 {
				w.s = w.s.Copy()
			}
		}
	}
	for kind, least := range map[string]int{
		"transfer 0": 500, "transfer 2": 100, "transfer 10": 50, "transfer 13": 100,
		"create 0": 200, "create 2": 50, "create 8": 500, "create 10": 20, "create 13": 50,
		"delegate 0": 1000, "delegate 10": 100, "delegate 13": 100, "delegate 14": 50, "delegate 20": 200,
		"undelegate 0": 500, "undelegate 10": 50, "undelegate 13": 50, "undelegate 14": 100, "undelegate 22": 200,
		"redelegate 0": 300, "redelegate 2": 300, "redelegate 10": 50, "redelegate 13": 50, "redelegate 14": 100, "redelegate 20": 200, "redelegate 22": 50, "redelegate 23": 200,
		"unjail 0": 50, "unjail 10": 50, "unjail 11": 100, "unjail 13": 20, "unjail 20": 50, "unjail 21": 50, "unjail 24": 100,
		"tick 0": 2000, "tick 3": 50, "cut 0": 500, "cut 3": 50, "cut 10": 50,
		"punish 0": 300, "punish 2": 100, "punish 10": 50, "punish 19": 50, "punish 20": 200, "grant 0": 500, "grant 10": 50, "grant 13": 50,
	} {
		if count[kind] < least {
			t.Errorf("%s: only %d", kind, count[kind])
		}
	}
}

// TestDrawnCalls: P18.3: each kind of operation once of many drawn ledgers.
func TestDrawnCalls(t *testing.T) {
	r := source(3)
	for range 4000 {
		x := drawn(r)
		s := load(t, x)
		for range 4 {
			_, c := drawnCall(r, x)
			x = c.goes(t, s, x)
		}
	}
}
