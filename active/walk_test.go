package active_test

import (
	"math/bits"
	"math/rand/v2"
	"slices"
	"testing"

	"distraint/active"
)

// members tells the numbers of those in a set.
func members(set []bool) (l []int) {
	for v, in := range set {
		if in {
			l = append(l, v)
		}
	}
	return l
}

// innocent: what P17.4 says of the set that was chosen.
func innocent(t *testing.T, tokens []uint64, may []bool, most int, set []bool) {
	t.Helper()
	chosen, eligible := 0, 0
	for v := range max(len(tokens), len(may)) {
		if isEligible(tokens, may, v) {
			eligible++
		}
		if !set[v] {
			continue
		}
		chosen++
		if !isEligible(tokens, may, v) {
			t.Errorf("at most %d of %v, %s: %d is not eligible", most, tokens, digits(may), v)
		}
		for a := range set {
			if !set[a] && isEligible(tokens, may, a) && isRicher(tokens, a, v) {
				t.Errorf("at most %d of %v, %s: %d is richer than %d", most, tokens, digits(may), a, v)
			}
		}
	}
	if want := min(eligible, max(most, 0)); chosen != want {
		t.Errorf("at most %d of %v, %s: %d; want %d", most, tokens, digits(may), chosen, want)
	}
}

// TestInnocent: P17.4: drawn lists, and numbers around that of the eligible ones; those that are chosen are the first ones that Rank tells.
func TestInnocent(t *testing.T) {
	r := source(7)
	for range 1000 {
		tokens, may := drawnTokens(r), drawnSet(r)
		ranked := active.Rank(tokens, may)
		for _, most := range many(len(ranked)) {
			set := active.Choose(tokens, may, most)
			innocent(t, tokens, may, most, set)
			first := slices.Sorted(slices.Values(ranked[:min(max(most, 0), len(ranked))]))
			if !slices.Equal(members(set), first) {
				t.Errorf("at most %d of %v, %s: %v; the first ones are %v", most, tokens, digits(may), members(set), first)
			}
		}
		for i, v := range ranked[:max(0, len(ranked)-1)] {
			if !isRicher(tokens, v, ranked[i+1]) {
				t.Errorf("of %v: %d is not richer than %d", tokens, v, ranked[i+1])
			}
		}
	}
}

// favoured tells the lists after a change in favour of v: more tokens for it, fewer for another one, or another one that may not any longer.
func favoured(r *rand.Rand, v int, tokens []uint64, may []bool) ([]uint64, []bool) {
	tokens, may = slices.Clone(tokens), slices.Clone(may)
	a := r.IntN(len(tokens))
	switch {
	case a == v || r.IntN(4) == 0:
		tokens[v] += min(amount(r), m-tokens[v])
	case r.IntN(2) == 0:
		tokens[a] -= min(amount(r), tokens[a])
	case r.IntN(4) == 0 && a > v:
		tokens = tokens[:a]
	case a < len(may):
		may[a] = false
	}
	return tokens, may
}

// TestStays: P17.5: whoever is chosen stays so through changes in its favour, one after the other.
func TestStays(t *testing.T) {
	r := source(8)
	for range 3000 {
		tokens, may := drawnTokens(r), drawnSet(r)
		most := r.IntN(5)
		for _, v := range members(active.Choose(tokens, may, most)) {
			nowTokens, nowMay := tokens, may
			for range 5 {
				nowTokens, nowMay = favoured(r, v, nowTokens, nowMay)
				if !active.Choose(nowTokens, nowMay, most)[v] {
					t.Fatalf("at most %d: %d of %v, %s; not of %v, %s", most, v, tokens, digits(may), nowTokens, digits(nowMay))
				}
			}
		}
	}
}

// TestStaysEqual: P17.5, written out: validators that are chosen ahead of equal ones, or just stay ahead.
func TestStaysEqual(t *testing.T) {
	choose(amounts(3, 3, 3), bools("111"), 2).is(t, told{each: bools("110")})
	choose(amounts(3, 4, 3), bools("111"), 2).is(t, told{each: bools("110")})
	choose(amounts(3, 3, 2), bools("111"), 2).is(t, told{each: bools("110")})
	choose(amounts(3, 3, 3), bools("011"), 2).is(t, told{each: bools("011")})
	choose(amounts(0, 3, 3), bools("111"), 2).is(t, told{each: bools("011")})
	choose(amounts(2, 3, 3), bools("111"), 2).is(t, told{each: bools("011")})
	choose(amounts(3, 3, 4), bools("111"), 2).is(t, told{each: bools("101")})
	choose(amounts(m, m, m), bools("111"), 1).is(t, told{each: bools("100")})
	choose(amounts(m-1, m, m), bools("111"), 1).is(t, told{each: bools("010")})
}

// stepped tells the set that comes from another one if some come in and some go out: of n validators.
func stepped(t *testing.T, n int, was []bool, in, out []int) []bool {
	t.Helper()
	set := append(slices.Clone(was), make([]bool, max(0, n-len(was)))...)
	for _, v := range in {
		if set[v] {
			t.Errorf("%d comes in, and was in", v)
		}
		set[v] = true
	}
	for _, v := range out {
		if !set[v] || slices.Contains(in, v) {
			t.Errorf("%d goes out, and was not in", v)
		}
		set[v] = false
	}
	for _, l := range [][]int{in, out} {
		for i := range len(l) - 1 {
			if l[i] >= l[i+1] {
				t.Errorf("not in order: %v", l)
			}
		}
	}
	return set
}

// TestSteps: P17.5: the step that Diff describes brings one set to the next, while tokens, who may, the number of validators and most change.
func TestSteps(t *testing.T) {
	r := source(9)
	for range 200 {
		var set []bool
		tokens, may := drawnTokens(r), drawnSet(r)
		for range 30 {
			most := r.IntN(7) - 1
			next := active.Choose(tokens, may, most)
			in, out := active.Diff(set, next)
			n := max(len(set), len(next))
			got := stepped(t, n, set, in, out)
			if want := append(slices.Clone(next), make([]bool, n-len(next))...); !slices.Equal(got, want) {
				t.Fatalf("from %s to %s: %v, %v", digits(set), digits(next), in, out)
			}
			if back, forth := active.Diff(next, set); !slices.Equal(back, out) || !slices.Equal(forth, in) {
				t.Fatalf("from %s back to %s: %v, %v", digits(next), digits(set), back, forth)
			}
			set = next
			tokens, may = changed(r, tokens, may)
		}
	}
}

// changed tells the lists after some change: other tokens, another one that may or may not, one more validator, or others altogether.
func changed(r *rand.Rand, tokens []uint64, may []bool) ([]uint64, []bool) {
	tokens, may = slices.Clone(tokens), slices.Clone(may)
	switch n := r.IntN(12); {
	case n == 0:
		return drawnTokens(r), drawnSet(r)
	case n == 1:
		return append(tokens, amount(r)), append(may, true)
	case n < 6 && len(tokens) > 0:
		tokens[r.IntN(len(tokens))] = amount(r)
	case len(may) > 0:
		v := r.IntN(len(may))
		may[v] = !may[v]
	}
	return tokens, may
}

// subset draws a set of validators; a tight one has a quorum only with each of its validators.
func subset(r *rand.Rand, tokens []uint64, quorum uint64, tight bool) []bool {
	set := make([]bool, len(tokens))
	for _, v := range r.Perm(len(tokens)) {
		if active.Sum(tokens, set) >= quorum && tight {
			break
		}
		set[v] = tight || r.IntN(8) > 0
	}
	return set
}

// common tells who is in both sets.
func common(a, b []bool) (l []bool) {
	for v := range a {
		l = append(l, a[v] && b[v])
	}
	return l
}

// TestQuorums: P17.6: two drawn subsets that each hold a quorum hold more than the sum together, and have tokens in common.
func TestQuorums(t *testing.T) {
	r := source(10)
	held := 0
	for range 20_000 {
		tokens := drawnTokens(r)
		if exact(tokens, same(len(tokens), true)).Cmp(number(m)) > 0 {
			continue
		}
		sum := active.Sum(tokens, same(len(tokens), true))
		quorum := active.Quorum(sum)
		a, b := subset(r, tokens, quorum, r.IntN(4) > 0), subset(r, tokens, quorum, r.IntN(4) > 0)
		x, y := active.Sum(tokens, a), active.Sum(tokens, b)
		if x < quorum || y < quorum {
			continue
		}
		held++
		if both, carry := bits.Add64(x, y, 0); carry == 0 && both <= sum {
			t.Errorf("of %v: %s and %s", tokens, digits(a), digits(b))
		}
		if least, some := active.Floor(tokens, common(a, b)); active.Sum(tokens, common(a, b)) == 0 || !some || least > sum {
			t.Errorf("of %v: %s and %s have nothing in common", tokens, digits(a), digits(b))
		}
	}
	if held < 5000 {
		t.Errorf("only %d pairs", held)
	}
}

// TestQuorumsEqual: P17.6, written out: validators with one token each; so many of them are a quorum, and one less are not.
func TestQuorumsEqual(t *testing.T) {
	for n, want := range []int{1, 1, 2, 3, 3, 4, 5, 5, 6, 7, 7} {
		quorum(t, uint64(n), uint64(want))
		for k := range n + 1 {
			first, last := append(same(k, true), make([]bool, n-k)...), append(make([]bool, n-k), same(k, true)...)
			shared := len(members(common(first, last)))
			if ones := same[uint64](n, 1); active.Sum(ones, first) >= uint64(want) && shared < 1 {
				t.Errorf("%d of %d, with %d in common", k, n, shared)
			}
		}
	}
}
