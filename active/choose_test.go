package active_test

import (
	"math"
	"testing"
)

// TestChooseMost: P17.1, written out: most below 0, 0, 1, one less than there are eligible validators, just as many, one more, and far more.
func TestChooseMost(t *testing.T) {
	tokens, may := amounts(5, 9, 5, 0, 7, m, 5, 8), bools("11111011")
	for _, x := range []struct {
		most int
		want string
	}{
		{math.MinInt, "00000000"}, {-1 << 32, "00000000"}, {-6, "00000000"}, {-1, "00000000"}, {0, "00000000"},
		{1, "01000000"}, {2, "01000001"}, {3, "01001001"}, {4, "11001001"}, {5, "11101001"}, {6, "11101011"},
		{7, "11101011"}, {8, "11101011"}, {9, "11101011"}, {64, "11101011"}, {1 << 31, "11101011"}, {1<<32 + 1, "11101011"}, {math.MaxInt, "11101011"},
	} {
		choose(tokens, may, x.most).is(t, told{each: bools(x.want)})
	}
}

// TestChooseLengths: P17.1: each validator is told of, as many as the longer list has.
func TestChooseLengths(t *testing.T) {
	for _, x := range []struct {
		tokens []uint64
		may    string
		most   int
		want   string
	}{
		{amounts(5, 9, 7), "111", 2, "011"},
		{amounts(5, 9, 7), "11", 2, "110"},
		{amounts(5, 9, 7), "", 2, "000"},
		{amounts(5, 9), "111", 3, "110"},
		{amounts(5), "11111", 1, "10000"},
		{nil, "111", 3, "000"},
		{nil, "111", 0, "000"},
		{nil, "000", -1, "000"},
		{amounts(m, m), "", -1, "00"},
		{amounts(0, 0), "11", 2, "00"},
		{amounts(0, 1), "11", 2, "01"},
		{amounts(m, 1), "01", 2, "01"},
		{amounts(m, 1, 0), "01", 1, "010"},
	} {
		choose(x.tokens, bools(x.may), x.most).is(t, told{each: bools(x.want)})
	}
	for _, most := range many(1) {
		choose(nil, nil, most).is(t, told{})
		choose([]uint64{}, []bool{}, most).is(t, told{})
		choose(nil, same(40, false), most).is(t, told{each: make([]bool, 40)})
		choose(same[uint64](40, 7), nil, most).is(t, told{each: make([]bool, 40)})
		choose(make([]uint64, 40), same(40, true), most).is(t, told{each: make([]bool, 40)})
	}
}

// TestChooseEqual: P17.1: of equal numbers of tokens, next to each other and far apart, those with the smaller numbers are chosen.
func TestChooseEqual(t *testing.T) {
	for _, n := range []int{1, 2, 3, 31, 32, 33, 90} {
		for most := range n + 3 {
			want := append(same(min(most, n), true), make([]bool, max(0, n-most))...)
			choose(same[uint64](n, 3), same(n, true), most).is(t, told{each: want})
			choose(same[uint64](n, m), same(n, true), most).is(t, told{each: want})
		}
	}
	tokens := amounts(3, 4, 2, 3, 1, 4, 3)
	for most, want := range []string{"0000000", "0100000", "0100010", "1100010", "1101010", "1101011", "1111011", "1111111"} {
		choose(tokens, same(7, true), most).is(t, told{each: bools(want)})
	}
}

// TestChooseSmall: P17.1: all short lists, and each number that may be chosen.
func TestChooseSmall(t *testing.T) {
	for _, tokens := range lists[uint64](3, 0, 1, m) {
		for _, may := range lists(4, false, true) {
			for most := -1; most < 6; most++ {
				choose(tokens, may, most).holds(t)
			}
		}
	}
}

// TestChooseDrawn: P17.1: drawn lists, and numbers around that of the eligible ones.
func TestChooseDrawn(t *testing.T) {
	r := source(3)
	for range 1000 {
		tokens, may := drawnTokens(r), drawnSet(r)
		for _, most := range many(len(wantRank(tokens, may).numbers)) {
			choose(tokens, may, most).holds(t)
		}
	}
}
