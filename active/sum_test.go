package active_test

import (
	"testing"

	"distraint/active"
)

// TestSum: P17.3: sets that are longer and shorter than tokens, and the empty set; sums just at 2^64 - 1, one beyond it and far beyond it.
func TestSum(t *testing.T) {
	for _, x := range []struct {
		tokens []uint64
		in     string
		want   uint64
	}{
		{nil, "", 0}, {nil, "111", 0}, {amounts(5), "", 0}, {amounts(5, 9), "00", 0}, {amounts(0, 0), "11", 0},
		{amounts(5, 9), "11", 14}, {amounts(5, 9), "01", 9}, {amounts(5, 9), "10", 5}, {amounts(5, 9), "1", 5},
		{amounts(5, 9), "1111", 14}, {amounts(5, 9), "0111", 9}, {amounts(5, 9), "0011", 0}, {amounts(5, 9, 7, 7), "101", 12},
		{amounts(m), "1", m}, {amounts(m-1, 1), "11", m}, {amounts(m, 0), "11", m}, {amounts(1<<63, 1<<63-1), "11", m}, {amounts(m/2, m/2, 1), "111", m},
		{amounts(m/2, m/2), "11", m - 1}, {amounts(m-2, 1), "11", m - 1},
		{amounts(m, 1), "11", m}, {amounts(1, m), "11", m}, {amounts(1<<63, 1<<63), "11", m}, {amounts(m/2, m/2, 2), "111", m},
		{amounts(m, m), "11", m}, {amounts(m, m, m, m, m), "11111", m},
		{amounts(m, 1, 5), "111", m}, {amounts(1<<63, 1<<63, 1<<63, 1<<63, 3), "11111", m},
		{amounts(m, 1, 5), "101", m}, {amounts(m, 1, 5), "011", 6}, {amounts(m, 1), "10111", m}, {amounts(m, m), "01", m}, {amounts(m, m), "00", 0},
	} {
		sum(x.tokens, bools(x.in)).is(t, told{n: x.want})
	}
	sum([]uint64{}, []bool{}).is(t, told{})
	for n := range 70 {
		sum(same[uint64](n, 1<<58), same(n, true)).holds(t)
		sum(same[uint64](n, m/64), same(n+1, true)).holds(t)
		sum(same[uint64](n+1, m/32), same(n, true)).holds(t)
	}
}

// TestFloor: P17.3: sets that are longer and shorter than tokens, and the empty set; a validator in the set whose tokens are missing counts with 0.
func TestFloor(t *testing.T) {
	for _, x := range []struct {
		tokens []uint64
		in     string
		want   uint64
	}{
		{amounts(5, 9, 3), "111", 3}, {amounts(5, 9, 3), "110", 5}, {amounts(5, 9, 3), "11", 5}, {amounts(5, 9, 3), "01", 9}, {amounts(5, 9, 3), "1", 5},
		{amounts(9, 5), "11", 5}, {amounts(5, 9), "11", 5}, {amounts(5, 5), "11", 5}, {amounts(9, 5, 7), "111", 5}, {amounts(9, 5, 7), "101", 7},
		{amounts(5, 9), "111", 0}, {amounts(5, 9), "110", 5}, {amounts(5, 9), "001", 0}, {amounts(5, 9), "000001", 0}, {nil, "1", 0}, {nil, "0001", 0},
		{amounts(0), "1", 0}, {amounts(5, 0), "11", 0}, {amounts(0, 5), "11", 0}, {amounts(0, 5), "01", 5},
		{amounts(m), "1", m}, {amounts(m, m-1), "11", m - 1}, {amounts(m, m-1), "10", m}, {amounts(m-1, m), "11", m - 1}, {amounts(1<<63, 1<<63-1), "11", 1<<63 - 1},
	} {
		floor(x.tokens, bools(x.in)).is(t, told{n: x.want, some: true})
	}
	for _, tokens := range [][]uint64{nil, {}, amounts(0), amounts(5), amounts(m, m, m)} {
		for _, in := range []string{"", "0", "000", "0000000"} {
			floor(tokens, bools(in)).is(t, told{})
		}
	}
	floor(amounts(5), []bool{}).is(t, told{})
}

// TestSumFloorSmall: P17.3: all short lists.
func TestSumFloorSmall(t *testing.T) {
	for _, tokens := range lists[uint64](3, 0, 1, 5, m-5, m) {
		for _, in := range lists(4, false, true) {
			sum(tokens, in).holds(t)
			floor(tokens, in).holds(t)
		}
	}
}

// TestSumFloorDrawn: P17.3: drawn lists.
func TestSumFloorDrawn(t *testing.T) {
	r := source(5)
	for range 5000 {
		tokens, in := drawnTokens(r), drawnSet(r)
		sum(tokens, in).holds(t)
		floor(tokens, in).holds(t)
	}
}

// quorum: Quorum of a sum is this: enough, and one less is not enough.
func quorum(t *testing.T, sum, want uint64) {
	t.Helper()
	if !enough(want, sum) || want == 0 || enough(want-1, sum) {
		t.Errorf("the model: of %d; want not %d", sum, want)
	}
	if n := active.Quorum(sum); n != want {
		t.Errorf("Quorum(%d): %d; want %d", sum, n, want)
	}
}

// isQuorum: Quorum of a sum is the smallest number that is enough.
func isQuorum(t *testing.T, sum uint64) {
	t.Helper()
	n := active.Quorum(sum)
	if n == 0 || !enough(n, sum) || enough(n-1, sum) {
		t.Errorf("Quorum(%d): %d", sum, n)
	}
}

// TestQuorum: P17.3: small sums, ones on each side of each remainder by three, and the greatest ones.
func TestQuorum(t *testing.T) {
	for sum, want := range []uint64{1, 1, 2, 3, 3, 4, 5, 5, 6, 7, 7, 8, 9} {
		quorum(t, uint64(sum), want)
	}
	for _, x := range []struct{ sum, want uint64 }{
		{98, 66}, {99, 67}, {100, 67}, {101, 68}, {102, 69}, {998, 666}, {999, 667}, {1000, 667}, {1001, 668},
		{m, 12297829382473034411}, {m - 1, 12297829382473034410}, {m - 2, 12297829382473034409}, {m - 3, 12297829382473034409}, {m - 4, 12297829382473034408}, {m - 5, 12297829382473034407}, {m - 6, 12297829382473034407},
		{1 << 63, 6148914691236517206}, {1<<63 - 1, 6148914691236517205}, {1<<63 - 2, 6148914691236517205}, {1<<63 + 1, 6148914691236517207}, {1<<63 + 2, 6148914691236517207},
		{1 << 62, 3074457345618258603}, {1 << 32, 2863311531},
	} {
		quorum(t, x.sum, x.want)
	}
}

// TestQuorumMany: P17.3: runs of sums around powers of two and multiples of three, and drawn ones.
func TestQuorumMany(t *testing.T) {
	for sum := range uint64(10_000) {
		isQuorum(t, sum)
		isQuorum(t, m-sum)
	}
	for bit := range 64 {
		for near := range uint64(20) {
			isQuorum(t, 1<<bit+near-10)
			isQuorum(t, m/3*2+near-10)
			isQuorum(t, m/3>>bit*3+near-10)
		}
	}
	r := source(6)
	for range 10_000 {
		isQuorum(t, r.Uint64()>>r.IntN(64))
	}
}
