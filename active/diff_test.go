package active_test

import "testing"

// TestDiffLengths: P17.2: lists of the same length, and of which either is longer, with true and with false beyond the other one's end.
func TestDiffLengths(t *testing.T) {
	for _, x := range []struct {
		was, is string
		in, out []int
	}{
		{"", "", nil, nil},
		{"0", "0", nil, nil}, {"1", "1", nil, nil}, {"0", "1", numbers(0), nil}, {"1", "0", nil, numbers(0)},
		{"1100", "1010", numbers(2), numbers(1)},
		{"1111", "0000", nil, numbers(0, 1, 2, 3)}, {"0000", "1111", numbers(0, 1, 2, 3), nil},
		{"10101", "01010", numbers(1, 3), numbers(0, 2, 4)},
		{"", "0", nil, nil}, {"", "1", numbers(0), nil}, {"0", "", nil, nil}, {"1", "", nil, numbers(0)},
		{"", "0101", numbers(1, 3), nil}, {"0101", "", nil, numbers(1, 3)},
		{"11", "110", nil, nil}, {"110", "11", nil, nil}, {"11", "111", numbers(2), nil}, {"111", "11", nil, numbers(2)},
		{"01", "1000", numbers(0), numbers(1)}, {"01", "1011", numbers(0, 2, 3), numbers(1)},
		{"1000", "01", numbers(1), numbers(0)}, {"1011", "01", numbers(1), numbers(0, 2, 3)},
		{"1", "10000001", numbers(7), nil}, {"10000001", "1", nil, numbers(7)}, {"1", "10000000", nil, nil},
	} {
		diff(bools(x.was), bools(x.is)).is(t, told{numbers: x.in, more: x.out})
	}
	diff([]bool{}, nil).is(t, told{})
	diff(nil, []bool{}).is(t, told{})
	diff([]bool{}, []bool{}).is(t, told{})
}

// TestDiffFar: P17.2: what is only in one of the lists is found at its very end.
func TestDiffFar(t *testing.T) {
	for _, n := range []int{31, 32, 33, 1000} {
		diff(nil, after(n, true)).is(t, told{numbers: numbers(n)})
		diff(after(n, true), nil).is(t, told{more: numbers(n)})
		diff(make([]bool, n), make([]bool, 2*n)).is(t, told{})
		diff(append(make([]bool, n), true), make([]bool, 2*n)).is(t, told{more: numbers(n)})
		diff(same(n, true), same(n, true)).is(t, told{})
		diff(same(n, true), after(n-1, true, true)).is(t, told{numbers: numbers(n), more: upTo(n - 1)})
		diff(after(n-1, true, true), same(n, true)).is(t, told{numbers: upTo(n - 1), more: numbers(n)})
	}
}

func upTo(n int) (l []int) {
	for i := range n {
		l = append(l, i)
	}
	return l
}

// TestDiffSmall: P17.2: all short lists.
func TestDiffSmall(t *testing.T) {
	all := lists(5, false, true)
	for _, was := range all {
		for _, is := range all {
			diff(was, is).holds(t)
		}
	}
}

// TestDiffDrawn: P17.2: drawn lists.
func TestDiffDrawn(t *testing.T) {
	r := source(4)
	for range 5000 {
		diff(drawnSet(r), drawnSet(r)).holds(t)
	}
}
