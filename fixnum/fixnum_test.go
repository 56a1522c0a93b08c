package fixnum_test

import (
	"math/big"
	"slices"
	"testing"

	"distraint/api"
	"distraint/fixnum"
)

const m = 1<<64 - 1

// edges are the numbers around which sums, words and billionths turn over; they increase.
func edges() []uint64 {
	return []uint64{
		0, 1, 2, 3, 7, 10,
		api.Billion - 1, api.Billion, api.Billion + 1,
		1<<32 - 1, 1 << 32, 1<<32 + 1,
		1<<63 - 1, 1 << 63, 1<<63 + 1,
		m - 2, m - 1, m,
	}
}

// mixed tells n numbers of all lengths, the same ones in every run.
func mixed(n int) []uint64 {
	l := make([]uint64, n)
	x := uint64(1)
	for i := range l {
		x ^= x << 13
		x ^= x >> 7
		x ^= x << 17
		l[i] = x >> (i * 7 % 64)
	}
	return l
}

// triples tells all triples of edges, and some mixed ones.
func triples() [][3]uint64 {
	var out [][3]uint64
	for _, a := range edges() {
		for _, b := range edges() {
			for _, c := range edges() {
				out = append(out, [3]uint64{a, b, c})
			}
		}
	}
	l := mixed(9000)
	for i := 0; i+2 < len(l); i += 3 {
		out = append(out, [3]uint64{l[i], l[i+1], l[i+2]})
	}
	return out
}

func whole(n uint64) *big.Int { return new(big.Int).SetUint64(n) }

func times(a, b uint64) *big.Int { return new(big.Int).Mul(whole(a), whole(b)) }

// answer is what a call returns.
type answer struct {
	n   uint64
	err api.Errno
}

func got(n uint64, err api.Errno) answer { return answer{n, err} }

// exact tells what a call answers whose exact result is n: ErrOver, and 0 beside it, if that is no amount.
func exact(n *big.Int) answer {
	if !n.IsUint64() {
		return answer{0, api.ErrOver}
	}
	return answer{n.Uint64(), api.OK}
}

func same(t *testing.T, is, want answer, call string, args ...uint64) {
	t.Helper()
	if is != want {
		t.Errorf("%s%v: %d, %v; want %d, %v", call, args, is.n, is.err, want.n, want.err)
	}
}

// TestExamples: the chapter's table, each of its rows.
func TestExamples(t *testing.T) {
	for _, x := range []struct {
		call     string
		is, want answer
	}{
		{"Add(m, 0)", got(fixnum.Add(m, 0)), answer{m, api.OK}},
		{"Add(m, 1)", got(fixnum.Add(m, 1)), answer{0, api.ErrOver}},
		{"Sub(3, 5)", got(fixnum.Sub(3, 5)), answer{0, api.ErrPoor}},
		{"Mul(2^32, 2^32)", got(fixnum.Mul(1<<32, 1<<32)), answer{0, api.ErrOver}},
		{"Sum(none)", got(fixnum.Sum(nil)), answer{0, api.OK}},
		{"Sum(m, 0, 1)", got(fixnum.Sum([]uint64{m, 0, 1})), answer{0, api.ErrOver}},
		{"MulDiv(m, m, m)", got(fixnum.MulDiv(m, m, m)), answer{m, api.OK}},
		{"MulDiv(m, 2, 1)", got(fixnum.MulDiv(m, 2, 1)), answer{0, api.ErrOver}},
		{"MulDiv(7, 3, 2)", got(fixnum.MulDiv(7, 3, 2)), answer{10, api.OK}},
		{"MulDivUp(7, 3, 2)", got(fixnum.MulDivUp(7, 3, 2)), answer{11, api.OK}},
		{"MulDivUp(6, 3, 2)", got(fixnum.MulDivUp(6, 3, 2)), answer{9, api.OK}},
		{"MulDiv(1, 1, 0)", got(fixnum.MulDiv(1, 1, 0)), answer{0, api.ErrArg}},
		{"MulDivUp(m, 3, 3)", got(fixnum.MulDivUp(m, 3, 3)), answer{m, api.OK}},
		{"MulDivUp(m, m - 1, m)", got(fixnum.MulDivUp(m, m-1, m)), answer{m - 1, api.OK}},
		{"MulDivUp(m, m, m - 1)", got(fixnum.MulDivUp(m, m, m-1)), answer{0, api.ErrOver}},
		{"Rest(7, 3, 2)", got(fixnum.Rest(7, 3, 2)), answer{1, api.OK}},
		{"Rest(m, m, 10)", got(fixnum.Rest(m, m, 10)), answer{5, api.OK}},
		{"Capped(9, 7, 3, 2)", got(fixnum.Capped(9, 7, 3, 2)), answer{9, api.OK}},
		{"Capped(99, 7, 3, 2)", got(fixnum.Capped(99, 7, 3, 2)), answer{10, api.OK}},
		{"Capped(5, m, m, 1)", got(fixnum.Capped(5, m, m, 1)), answer{5, api.OK}},
		{"Part(1000, 500000000)", got(fixnum.Part(1000, 500000000)), answer{500, api.OK}},
		{"Part(3, 333333333)", got(fixnum.Part(3, 333333333)), answer{0, api.OK}},
		{"Part(m, 10^9)", got(fixnum.Part(m, api.Billion)), answer{m, api.OK}},
		{"Part(1, 10^9 + 1)", got(fixnum.Part(1, api.Billion+1)), answer{0, api.ErrRange}},
	} {
		same(t, x.is, x.want, x.call)
	}
	if high, low := fixnum.Wide(m, m); high != m-1 || low != 1 {
		t.Errorf("Wide(m, m): %d, %d", high, low)
	}
	if high, low := fixnum.Wide(1<<63, 2); high != 1 || low != 0 {
		t.Errorf("Wide(2^63, 2): %d, %d", high, low)
	}
	if n := fixnum.Cmp(m, 2, 2, m); n != 0 {
		t.Errorf("Cmp(m, 2, 2, m): %d", n)
	}
	if n := fixnum.Cmp(m, 2, m, 3); n != -1 {
		t.Errorf("Cmp(m, 2, m, 3): %d", n)
	}
}

// TestPairs: P1.1, of two amounts.
func TestPairs(t *testing.T) {
	for _, x := range triples() {
		a, b := x[0], x[1]
		same(t, got(fixnum.Add(a, b)), exact(new(big.Int).Add(whole(a), whole(b))), "Add", a, b)
		same(t, got(fixnum.Mul(a, b)), exact(times(a, b)), "Mul", a, b)
		left := answer{0, api.ErrPoor}
		if b <= a {
			left = answer{a - b, api.OK}
		}
		same(t, got(fixnum.Sub(a, b)), left, "Sub", a, b)
		high, low := fixnum.Wide(a, b)
		sum := new(big.Int).Lsh(whole(high), 64)
		if sum.Add(sum, whole(low)).Cmp(times(a, b)) != 0 {
			t.Errorf("Wide(%d, %d): %d, %d", a, b, high, low)
		}
	}
}

// TestSums: P1.1, of lists: empty ones, long ones, and the sums next to 2^64.
func TestSums(t *testing.T) {
	lists := [][]uint64{
		nil, {}, {0}, {m}, {0, m, 0}, {m, 1}, {1, m}, {0, 0, 0}, {1, 2, 3},
		{m - 2, 1, 1}, {m - 2, 1, 1, 1}, {1 << 63, 1 << 63}, {1 << 63, 1<<63 - 1},
		{m, m}, {m, m, 2}, {m, 1, m, 1}, {api.Billion, api.Billion, 0},
		slices.Repeat([]uint64{1 << 52}, 1<<12-1), slices.Repeat([]uint64{1 << 52}, 1<<12),
		edges(), mixed(100),
	}
	for _, l := range lists {
		sum := new(big.Int)
		for _, n := range l {
			sum.Add(sum, whole(n))
		}
		same(t, got(fixnum.Sum(l)), exact(sum), "Sum", l...)
	}
	for _, x := range triples() {
		sum := new(big.Int).Add(whole(x[0]), whole(x[1]))
		same(t, got(fixnum.Sum(x[:])), exact(sum.Add(sum, whole(x[2]))), "Sum", x[:]...)
	}
}

// TestSumLeavesItsList: what is passed is not changed, and what lies behind it is neither read nor written.
func TestSumLeavesItsList(t *testing.T) {
	l := []uint64{4, 5, m, 6}
	same(t, got(fixnum.Sum(l[:2])), answer{9, api.OK}, "Sum", l[:2]...)
	same(t, got(fixnum.Sum(l)), answer{0, api.ErrOver}, "Sum", l...)
	if !slices.Equal(l, []uint64{4, 5, m, 6}) {
		t.Error("Sum changed its list:", l)
	}
}

// TestQuotients: P1.2, with c = 0 among the wrong inputs, whatever a and b are.
func TestQuotients(t *testing.T) {
	for _, x := range triples() {
		a, b, c := x[0], x[1], x[2]
		down, up, rest := answer{0, api.ErrArg}, answer{0, api.ErrArg}, answer{0, api.ErrArg}
		if c > 0 {
			p, d := times(a, b), whole(c)
			down = exact(new(big.Int).Div(p, d))
			rest = exact(new(big.Int).Mod(p, d))
			most := new(big.Int).Add(p, new(big.Int).Sub(d, whole(1)))
			up = exact(most.Div(most, d))
		}
		same(t, got(fixnum.MulDiv(a, b, c)), down, "MulDiv", a, b, c)
		same(t, got(fixnum.MulDivUp(a, b, c)), up, "MulDivUp", a, b, c)
		same(t, got(fixnum.Rest(a, b, c)), rest, "Rest", a, b, c)
	}
	// What is below fits, what is above does not: only the carry tells.
	same(t, got(fixnum.MulDiv(m-1, m-1, m-2)), answer{m, api.OK}, "MulDiv", m-1, m-1, m-2)
	same(t, got(fixnum.MulDivUp(m-1, m-1, m-2)), answer{0, api.ErrOver}, "MulDivUp", m-1, m-1, m-2)
}

// TestCapped: P1.2: a quotient that is no amount is capped, not refused.
func TestCapped(t *testing.T) {
	for _, x := range triples() {
		a, b, c := x[0], x[1], x[2]
		for _, most := range edges() {
			want := answer{0, api.ErrArg}
			if c > 0 {
				want = answer{most, api.OK}
				if q := new(big.Int).Div(times(a, b), whole(c)); q.Cmp(whole(most)) < 0 {
					want.n = q.Uint64()
				}
			}
			same(t, got(fixnum.Capped(most, a, b, c)), want, "Capped", most, a, b, c)
		}
	}
}

// TestParts: P1.3, of Part: no billionths, all of them, and too many.
func TestParts(t *testing.T) {
	ppbs := append(edges(), 333333333, 500000000, 999999998)
	for _, a := range append(edges(), mixed(300)...) {
		for _, ppb := range slices.Concat(ppbs, []uint64{a % (api.Billion + 1)}) {
			want := answer{0, api.ErrRange}
			if ppb <= api.Billion {
				want = exact(new(big.Int).Div(times(a, ppb), whole(api.Billion)))
			}
			same(t, got(fixnum.Part(a, ppb)), want, "Part", a, ppb)
		}
	}
}

// TestCmp: P1.3, of Cmp: all fours of edges, and mixed ones whose products are alike or nearly so.
func TestCmp(t *testing.T) {
	check := func(a, b, c, d uint64) {
		if is, want := fixnum.Cmp(a, b, c, d), times(a, b).Cmp(times(c, d)); is != want {
			t.Errorf("Cmp(%d, %d, %d, %d): %d; want %d", a, b, c, d, is, want)
		}
	}
	for _, x := range triples() {
		a, b, c := x[0], x[1], x[2]
		for _, d := range edges() {
			check(a, b, c, d)
		}
		check(a, b, b, a)
		check(a, b, a, c)
		check(a, b, b, a-1)
	}
	check(6<<60, 1<<40, 3<<60, 1<<41)
	check(6<<60, 1<<40|1, 3<<60, 1<<41)
}

// TestQuotientAndRest: P1.4, by the program's own calls, on both sides of the bound.
func TestQuotientAndRest(t *testing.T) {
	for _, x := range triples() {
		a, b, c := x[0], x[1], x[2]
		down, err := fixnum.MulDiv(a, b, c)
		if err != api.OK {
			continue
		}
		rest, err := fixnum.Rest(a, b, c)
		if back := times(down, c); err != api.OK || rest >= c || back.Add(back, whole(rest)).Cmp(times(a, b)) != 0 {
			t.Errorf("%v: MulDiv %d, Rest %d, %v", x, down, rest, err)
		}
		want := whole(down)
		if rest > 0 {
			want.Add(want, whole(1))
		}
		same(t, got(fixnum.MulDivUp(a, b, c)), exact(want), "MulDivUp", a, b, c)
	}
}

// splits are billionths whose sum is 10^9.
func splits() [][]uint64 {
	return [][]uint64{
		{api.Billion},
		{0, api.Billion},
		{0, api.Billion, 0},
		{1, api.Billion - 1},
		{500000000, 500000000},
		{333333333, 333333333, 333333334},
		{50000000, 350000000, 600000000},
		{1, 2, 3, 4, 5, 6, api.Billion - 21},
		slices.Repeat([]uint64{100000000}, 10),
		slices.Repeat([]uint64{1000000}, 1000),
	}
}

// TestPartsOfAWhole: P1.5: what is lost by rounding is less than a unit a part.
func TestPartsOfAWhole(t *testing.T) {
	for _, a := range append(edges(), mixed(300)...) {
		for _, l := range splits() {
			sum := uint64(0)
			for _, ppb := range l {
				part, err := fixnum.Part(a, ppb)
				if err != api.OK || part > a-sum {
					t.Fatalf("Part(%d, %d): %d, %v, after %d", a, ppb, part, err, sum)
				}
				sum += part
			}
			if a-sum >= uint64(len(l)) {
				t.Errorf("%d parts of %d: %d", len(l), a, sum)
			}
		}
	}
}

// TestPartRises: P1.5: Part does not decrease with either of its arguments.
func TestPartRises(t *testing.T) {
	amounts := append(edges(), mixed(60)...)
	ppbs := []uint64{0, api.Billion}
	for _, n := range mixed(60) {
		ppbs = append(ppbs, n%(api.Billion+1), (n+1)%(api.Billion+1))
	}
	slices.Sort(amounts)
	slices.Sort(ppbs)
	for i, a := range amounts {
		for k, ppb := range ppbs {
			part, err := fixnum.Part(a, ppb)
			if err != api.OK {
				t.Fatal("Part", a, ppb, err)
			}
			if i > 0 {
				if less, _ := fixnum.Part(amounts[i-1], ppb); less > part {
					t.Errorf("Part(%d, %d) is %d, that of %d %d", a, ppb, part, amounts[i-1], less)
				}
			}
			if k > 0 {
				if less, _ := fixnum.Part(a, ppbs[k-1]); less > part {
					t.Errorf("Part(%d, %d) is %d, by %d billionths %d", a, ppb, part, ppbs[k-1], less)
				}
			}
		}
	}
}
