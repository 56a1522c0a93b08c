package active_test

import (
	"math/big"
)

// The model: the chapter's words, one after the other.

// tokensOf: an element that is missing in tokens counts as 0.
func tokensOf(tokens []uint64, v int) uint64 {
	if v < len(tokens) {
		return tokens[v]
	}
	return 0
}

// is: an element that is missing in a list of bools counts as false.
func is(l []bool, v int) bool { return v < len(l) && l[v] }

// isEligible: may is true and it has more than 0 tokens.
func isEligible(tokens []uint64, may []bool, v int) bool {
	return is(may, v) && tokensOf(tokens, v) > 0
}

// isRicher: it has more tokens; of two that have the same number, the one with the smaller number.
func isRicher(tokens []uint64, a, b int) bool {
	x, y := tokensOf(tokens, a), tokensOf(tokens, b)
	return x > y || x == y && a < b
}

// place tells how many of those that are eligible are richer than v.
func place(tokens []uint64, may []bool, v int) (n int) {
	for a := range max(len(tokens), len(may)) {
		if isEligible(tokens, may, a) && isRicher(tokens, a, v) {
			n++
		}
	}
	return n
}

func wantRank(tokens []uint64, may []bool) told {
	places := map[int]int{}
	for v := range max(len(tokens), len(may)) {
		if isEligible(tokens, may, v) {
			places[place(tokens, may, v)] = v
		}
	}
	var want told
	for i := range len(places) {
		want.numbers = append(want.numbers, places[i])
	}
	return want
}

func wantChoose(tokens []uint64, may []bool, most int) told {
	var want told
	for v := range max(len(tokens), len(may)) {
		want.each = append(want.each, isEligible(tokens, may, v) && place(tokens, may, v) < most)
	}
	return want
}

func wantDiff(was, now []bool) told {
	var want told
	for v := range max(len(was), len(now)) {
		if is(now, v) && !is(was, v) {
			want.numbers = append(want.numbers, v)
		}
		if is(was, v) && !is(now, v) {
			want.more = append(want.more, v)
		}
	}
	return want
}

// exact tells the sum of what those in the set have, whatever its length.
func exact(tokens []uint64, in []bool) *big.Int {
	sum := new(big.Int)
	for v := range in {
		if in[v] {
			sum.Add(sum, number(tokensOf(tokens, v)))
		}
	}
	return sum
}

func wantSum(tokens []uint64, in []bool) told {
	sum := exact(tokens, in)
	if sum.Cmp(number(m)) > 0 {
		return told{n: m}
	}
	return told{n: sum.Uint64()}
}

func wantFloor(tokens []uint64, in []bool) told {
	var want told
	for v := range in {
		if n := tokensOf(tokens, v); in[v] && (!want.some || n < want.n) {
			want = told{n: n, some: true}
		}
	}
	return want
}

// enough: the number, times three, is greater than two times the sum.
func enough(n, sum uint64) bool {
	three, two := new(big.Int).Mul(number(n), number(3)), new(big.Int).Mul(number(sum), number(2))
	return three.Cmp(two) > 0
}

func number(n uint64) *big.Int { return new(big.Int).SetUint64(n) }
