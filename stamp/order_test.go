package stamp_test

import (
	"math"
	"slices"
	"testing"

	"distraint/api"
	"distraint/stamp"
)

// ordered tells what the chapter's words say: the first number in which two stamps differ decides.
func ordered(a, b api.Stamp) int {
	one, two := numbers(a), numbers(b)
	return slices.Compare(one[:], two[:])
}

// TestCompare: P12.1, written out: in one number alone, and in several that speak against each other; of stamps that are not valid too.
func TestCompare(t *testing.T) {
	for _, x := range []struct {
		a, b api.Stamp
		want int
	}{
		{of(2, 9, 1, 5), of(2, 9, 1, 5), 0}, {api.Stamp{}, api.Stamp{}, 0}, {bare(-5, -5), bare(-5, -5), 0},
		{of(2, 9, 1, 5), of(3, 9, 1, 5), -1}, {of(2, 9, 1, 5), of(2, 10, 1, 5), -1}, {of(2, 9, 1, 5), of(2, 9, 3, 5), -1}, {of(2, 9, 1, 5), of(2, 9, 1, 6), -1},
		{of(2, 9, 1, 5), of(3, 8, 0, 4), -1}, {of(2, 9, 1, 5), of(3, 8, 3, 6), -1}, {of(2, 9, 1, 5), of(2, 10, 0, 4), -1}, {of(2, 9, 1, 5), of(2, 10, 0, 6), -1}, {of(2, 9, 1, 5), of(2, 9, 3, 4), -1},
		{of(2, 9, 1, 5), of(3, 1, -1, 0), -1}, {bare(2, 9), of(2, 9, 0, 1), -1}, {of(2, 9, 31, 9), bare(2, 10), -1}, {of(2, 9, 0, 9), of(2, 9, 1, 1), -1},
		{of(-1, 9, 1, 5), of(0, 9, 1, 5), -1}, {of(2, -1, 1, 5), of(2, 0, 1, 5), -1}, {of(2, 9, -2, 5), of(2, 9, -1, 5), -1}, {of(2, 9, 1, -1), of(2, 9, 1, 0), -1},
		{of(math.MinInt, 9, 1, 5), of(math.MaxInt, 9, 1, 5), -1}, {of(2, math.MinInt, 1, 5), of(2, math.MaxInt, 1, 5), -1}, {of(2, 9, math.MinInt, 5), of(2, 9, math.MaxInt, 5), -1}, {of(2, 9, 1, math.MinInt), of(2, 9, 1, math.MaxInt), -1},
		{of(math.MaxInt-1, 0, 0, 0), of(math.MaxInt, 0, 0, 0), -1}, {of(0, 0, 0, math.MinInt), of(0, 0, 0, math.MinInt+1), -1},
	} {
		if is := stamp.Compare(x.a, x.b); is != x.want {
			t.Errorf("Compare(%v, %v): %d; want %d", x.a, x.b, is, x.want)
		}
		if is := stamp.Compare(x.b, x.a); is != -x.want {
			t.Errorf("Compare(%v, %v): %d; want %d", x.b, x.a, is, -x.want)
		}
	}
}

// grid are stamps, few of them valid, with some numbers each.
func grid(n ...int) (l []api.Stamp) {
	for _, a := range n {
		for _, b := range n {
			for _, c := range n {
				for _, d := range n {
					l = append(l, of(a, b, c, d))
				}
			}
		}
	}
	return l
}

// TestComparePairs: P12.1 and P12.6: all pairs by the chapter's words; only equal ones are neither less nor greater.
func TestComparePairs(t *testing.T) {
	for _, l := range [][]api.Stamp{grid(math.MinInt, -1, 0, 1, math.MaxInt), invalids(), valids()[:600]} {
		for _, a := range l {
			for _, b := range l {
				if is := stamp.Compare(a, b); is != ordered(a, b) || (is == 0) != (a == b) {
					t.Fatalf("Compare(%v, %v): %d", a, b, is)
				}
			}
		}
	}
}

// TestTotalOrder: P12.6: of any two stamps one comes first, of any three, too.
func TestTotalOrder(t *testing.T) {
	l := append(grid(-1, 1), grid(0, math.MaxInt)...)
	l = append(append(l, invalids()...), valids()[:30]...)
	for _, a := range l {
		for _, b := range l {
			if stamp.Compare(a, b) != -stamp.Compare(b, a) {
				t.Fatalf("%v and %v: %d and %d", a, b, stamp.Compare(a, b), stamp.Compare(b, a))
			}
			for _, c := range l {
				if stamp.Compare(a, b) <= 0 && stamp.Compare(b, c) <= 0 && stamp.Compare(a, c) > 0 {
					t.Fatalf("%v, %v, %v: in a ring", a, b, c)
				}
			}
		}
	}
}

// TestSorts: P12.6: drawn stamps, sorted, are as the chapter's words order them.
func TestSorts(t *testing.T) {
	r := source(2)
	var l []api.Stamp
	for range 5000 {
		l = append(l, drawn(r), bare(r.IntN(4), 1+r.IntN(9)), of(r.IntN(4), 1+r.IntN(4), r.IntN(4), r.IntN(4)))
	}
	slices.SortFunc(l, stamp.Compare)
	if !slices.IsSortedFunc(l, ordered) {
		t.Error("not sorted")
	}
}
