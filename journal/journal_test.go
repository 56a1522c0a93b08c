package journal_test

import (
	"math"
	"slices"
	"testing"

	"distraint/api"
	"distraint/journal"
)

// nowhere are numbers of no cell of any journal.
func nowhere() []int {
	return []int{math.MinInt, math.MinInt + 1, -1 << 32, -4096, -2, -1, 4096, 4097, 1 << 32, math.MaxInt - 1, math.MaxInt}
}

// TestNew: P10.1: how many cells there may be, and that they begin at 0 with no level.
func TestNew(t *testing.T) {
	for _, n := range []int{math.MinInt, -1 << 32, -4096, -2, -1, 0, 4097, 4098, 8192, 1 << 32, 1<<32 + 1, math.MaxInt} {
		if j, err := journal.New(n); j != nil || err != api.ErrRange {
			t.Errorf("New(%d): %v, %v; want ErrRange", n, j, err)
		}
	}
	for _, n := range []int{1, 2, 3, 64, 1000, 4095, 4096} {
		j, err := journal.New(n)
		if err != api.OK || !slices.Equal(j.Cells(), make([]uint64, n)) || j.Depth() != 0 || len(j.Touched()) != 0 {
			t.Fatalf("New(%d): %v, %v, %d, %v", n, err, j.Cells(), j.Depth(), j.Touched())
		}
		for i := range n {
			if has, err := j.Get(i); has != 0 || err != api.OK {
				t.Errorf("Get(%d) of %d: %d, %v", i, n, has, err)
			}
		}
	}
}

// TestApart: P10.1: each call of New makes another journal.
func TestApart(t *testing.T) {
	a, b := begun(t, 1, 2), begun(t, 1, 2)
	a.does(t, action{name: "Begin"}, action{name: "Set", n: 9})
	b.does(t, action{name: "Undo"}, action{name: "Get"})
}

// invalids are journals that neither New nor Copy returned, by their names.
func invalids(t *testing.T) map[string]*journal.Journal {
	t.Helper()
	b := begun(t, 9, 5, 0)
	b.does(t, action{name: "Begin"}, action{name: "Set", n: 4})
	value := *b.j
	return map[string]*journal.Journal{
		"nil":                nil,
		"zero":               {},
		"copied as a value":  &value,
		"a copy of nil":      (*journal.Journal)(nil).Copy(),
		"a copy of zero":     (&journal.Journal{}).Copy(),
		"a copy of a value":  (&value).Copy(),
		"a copy of a copy":   (&journal.Journal{}).Copy().Copy(),
		"what New refused":   first(journal.New(0)),
		"what New refused 2": first(journal.New(4097)),
	}
}

func first(j *journal.Journal, _ api.Errno) *journal.Journal { return j }

// TestInvalid: P10.1 and P10.4: an invalid journal tells so ahead of all else, and has nothing.
func TestInvalid(t *testing.T) {
	for name, j := range invalids(t) {
		for _, call := range actions() {
			for _, i := range append(nowhere(), 0, 1, 2, 3) {
				for _, k := range append(nowhere(), 0, 1, 2, 3) {
					for _, n := range []uint64{0, 1, m} {
						if is, err := do(j, action{call, i, k, n}); is != 0 || err != api.ErrNil {
							t.Fatalf("%s: %s(%d, %d, %d): %d, %v; want ErrNil", name, call, i, k, n, is, err)
						}
					}
				}
			}
			if j.Depth() != 0 || len(j.Cells()) != 0 || len(j.Touched()) != 0 {
				t.Errorf("%s: after %s: %d, %v, %v", name, call, j.Depth(), j.Cells(), j.Touched())
			}
		}
	}
}

// TestValueApart: P10.1: who writes to a journal's copy as a value has not changed the journal.
func TestValueApart(t *testing.T) {
	b := begun(t, 9, 5)
	b.does(t, action{name: "Begin"}, action{name: "Set", n: 4})
	value := *b.j
	value.Set(1, 7)
	value.Undo()
	b.stands(t, action{})
	b.does(t, action{name: "Undo"})
}

// TestMissingCells: P10.1: every call that names a cell, at the ends and beyond; ErrRange comes ahead of a Move's other errors.
func TestMissingCells(t *testing.T) {
	for _, n := range []int{1, 2, 3, 4095, 4096} {
		b := begun(t, make([]uint64, n)...)
		b.does(t, action{name: "Begin"})
		edges := []int{-1, n, n + 1, -n, math.MinInt, math.MaxInt, 1 << 32, 0, n - 1}
		for _, i := range edges {
			for _, call := range []string{"Get", "Set", "Add", "Sub"} {
				b.does(t, action{call, i, 0, 1}, action{call, i, 0, m})
			}
			for _, k := range edges {
				b.does(t, action{"Move", i, k, 0}, action{"Move", i, k, 1}, action{"Move", i, k, m})
			}
		}
	}
}

// TestCells: P10.2: each call at the edges of what a cell may hold, with a level and without one.
func TestCells(t *testing.T) {
	edges := []uint64{0, 1, 2, 5, 1 << 32, 1<<63 - 1, 1 << 63, 1<<63 + 1, m - 2, m - 1, m}
	for _, level := range []bool{false, true} {
		for _, has := range edges {
			for _, n := range edges {
				for _, call := range []string{"Get", "Set", "Add", "Sub"} {
					b := begun(t, 3, has, 4)
					if level {
						b.does(t, action{name: "Begin"})
					}
					b.does(t, action{call, 1, 0, n}, action{call, 1, 0, n})
				}
			}
		}
	}
}

// TestSteps: P10.2: Add and Sub at the ends, written out.
func TestSteps(t *testing.T) {
	j, _ := journal.New(1)
	for _, x := range []struct {
		call func(i int, n uint64) api.Errno
		n    uint64
		err  api.Errno
		has  uint64
	}{
		{j.Sub, 0, api.OK, 0}, {j.Sub, 1, api.ErrPoor, 0}, {j.Sub, m, api.ErrPoor, 0}, {j.Add, 0, api.OK, 0},
		{j.Add, m, api.OK, m}, {j.Add, 0, api.OK, m}, {j.Add, 1, api.ErrOver, m}, {j.Add, m, api.ErrOver, m},
		{j.Sub, m, api.OK, 0}, {j.Add, m - 1, api.OK, m - 1}, {j.Sub, m, api.ErrPoor, m - 1}, {j.Add, 2, api.ErrOver, m - 1},
		{j.Add, 1, api.OK, m}, {j.Sub, 1, api.OK, m - 1}, {j.Set, m, api.OK, m}, {j.Set, 0, api.OK, 0}, {j.Add, 7, api.OK, 7}, {j.Sub, 8, api.ErrPoor, 7}, {j.Sub, 7, api.OK, 0},
	} {
		err := x.call(0, x.n)
		if has, e := j.Get(0); err != x.err || has != x.has || e != api.OK {
			t.Errorf("%+v: %v, %d, %v", x, err, has, e)
		}
	}
}

// TestMove: P10.2 and P10.6: moves of nothing, of all, of one more than there is and of one more than fits, in both directions; each keeps the sum, and one that is refused changes nothing, touched cells among it.
func TestMove(t *testing.T) {
	amounts := []uint64{0, 1, 5, 9, 1 << 63, m - 5, m - 1, m}
	for _, level := range []bool{false, true} {
		for _, from := range amounts {
			for _, to := range amounts {
				for _, n := range []uint64{0, 1, from - 1, from, from + 1, m - to, m - to + 1, m, 1 << 63} {
					for _, x := range [][2]int{{0, 2}, {2, 0}, {1, 1}, {0, 0}, {0, 3}, {-1, 2}} {
						b := begun(t, from, 7, to)
						if level {
							b.does(t, action{name: "Begin"})
						}
						before := sum(b.j.Cells())
						b.does(t, action{"Move", x[0], x[1], n})
						if after := sum(b.j.Cells()); after.Cmp(before) != 0 {
							t.Errorf("Move(%d, %d, %d) between %d and %d: sum %v; was %v", x[0], x[1], n, from, to, after, before)
						}
					}
				}
			}
		}
	}
}

// TestMoves: P10.2: the errors of a move in their order, written out.
func TestMoves(t *testing.T) {
	j, _ := journal.New(3)
	j.Set(0, 9)
	j.Set(2, m-4)
	for _, x := range []struct {
		i, k int
		n    uint64
		err  api.Errno
		has  []uint64
	}{
		{3, 3, 99, api.ErrRange, []uint64{9, 0, m - 4}},
		{-1, -1, 0, api.ErrRange, []uint64{9, 0, m - 4}},
		{0, 3, 99, api.ErrRange, []uint64{9, 0, m - 4}},
		{-1, 0, 99, api.ErrRange, []uint64{9, 0, m - 4}},
		{1, 1, 99, api.ErrArg, []uint64{9, 0, m - 4}},
		{2, 2, m, api.ErrArg, []uint64{9, 0, m - 4}},
		{0, 0, 0, api.ErrArg, []uint64{9, 0, m - 4}},
		{0, 2, 10, api.ErrPoor, []uint64{9, 0, m - 4}},
		{0, 2, 9, api.ErrOver, []uint64{9, 0, m - 4}},
		{0, 2, 5, api.ErrOver, []uint64{9, 0, m - 4}},
		{0, 2, 4, api.OK, []uint64{5, 0, m}},
		{0, 2, 1, api.ErrOver, []uint64{5, 0, m}},
		{0, 2, 0, api.OK, []uint64{5, 0, m}},
		{0, 1, 6, api.ErrPoor, []uint64{5, 0, m}},
		{0, 1, 5, api.OK, []uint64{0, 5, m}},
		{0, 1, 1, api.ErrPoor, []uint64{0, 5, m}},
		{2, 0, m, api.OK, []uint64{m, 5, 0}},
	} {
		if err := j.Move(x.i, x.k, x.n); err != x.err || !slices.Equal(j.Cells(), x.has) {
			t.Errorf("%+v: %v, %v", x, err, j.Cells())
		}
	}
}

// TestResultsAreNew: P10.4: who writes to what Cells and Touched told, or behind it, changes nothing, and what was told stays as it was.
func TestResultsAreNew(t *testing.T) {
	b := begun(t, 9, 5, 0)
	b.does(t, action{name: "Begin"}, action{name: "Set", i: 2, n: 4}, action{name: "Set", i: 0, n: 3})
	cells, touched := b.j.Cells(), b.j.Touched()
	b.does(t, action{name: "Add", i: 1, n: 1}, action{name: "Add", i: 0, n: 1})
	if !slices.Equal(cells, []uint64{3, 5, 4}) || !slices.Equal(touched, []int{0, 2}) {
		t.Errorf("what was told changed: %v, %v", cells, touched)
	}
	for i := range cells[:cap(cells)] {
		cells[:cap(cells)][i] = 77
	}
	for i := range touched[:cap(touched)] {
		touched[:cap(touched)][i] = 77
	}
	b.stands(t, action{})
	b.does(t, action{name: "Keep"})
	b.does(t, action{name: "Set", i: 1, n: 8})
	if again := b.j.Cells(); &again[0] == &cells[0] {
		t.Error("Cells told the same memory twice")
	}
}
