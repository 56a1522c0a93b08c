package journal_test

import (
	"math"
	"math/rand/v2"
	"slices"
	"testing"

	"distraint/api"
	"distraint/journal"
)

func touches(t *testing.T, j *journal.Journal, want ...int) {
	t.Helper()
	if is := j.Touched(); !slices.Equal(is, want) {
		t.Errorf("Touched: %v; want %v", is, want)
	}
}

func holds(t *testing.T, j *journal.Journal, want ...uint64) {
	t.Helper()
	if is := j.Cells(); !slices.Equal(is, want) {
		t.Errorf("Cells: %v; want %v", is, want)
	}
}

// gives: the errors of some calls.
func gives(t *testing.T, is []api.Errno, want ...api.Errno) {
	t.Helper()
	if !slices.Equal(is, want) {
		t.Errorf("errors %v; want %v", is, want)
	}
}

// opens: Begin tells that so many levels are open.
func opens(t *testing.T, j *journal.Journal, want int) {
	t.Helper()
	if n, err := j.Begin(); n != want || err != api.OK || j.Depth() != want {
		t.Errorf("Begin: %d, %v, %d; want %d", n, err, j.Depth(), want)
	}
}

// table is the journal of the chapter's table.
func table(t *testing.T) *journal.Journal {
	t.Helper()
	j, err := journal.New(3)
	gives(t, []api.Errno{err, j.Set(0, 9), j.Set(1, 5)}, api.OK, api.OK, api.OK)
	return j
}

// TestExamples: the chapter's table.
func TestExamples(t *testing.T) {
	j := table(t)
	opens(t, j, 1)
	gives(t, []api.Errno{j.Set(0, 4)}, api.OK)
	opens(t, j, 2)
	gives(t, []api.Errno{j.Add(1, 1)}, api.OK)
	touches(t, j, 1)
	holds(t, j, 4, 6, 0)
	gives(t, []api.Errno{j.Keep()}, api.OK)
	touches(t, j, 0, 1)
	gives(t, []api.Errno{j.Undo()}, api.OK)
	holds(t, j, 9, 5, 0)
	gives(t, []api.Errno{j.Undo()}, api.ErrState)

	j = table(t)
	opens(t, j, 1)
	opens(t, j, 2)
	gives(t, []api.Errno{j.Move(0, 2, 9), j.Move(0, 2, 1), j.Move(1, 1, 0), j.Back(3), j.Back(0)}, api.OK, api.ErrPoor, api.ErrArg, api.ErrRange, api.OK)
	if j.Depth() != 0 {
		t.Errorf("Depth: %d", j.Depth())
	}
	holds(t, j, 9, 5, 0)

	j = table(t)
	n, err := j.Get(3)
	gives(t, []api.Errno{err, j.Set(-1, 0), j.Sub(1, 6), j.Set(2, 1<<64-1), j.Add(2, 1), j.Move(0, 2, 1)}, api.ErrRange, api.ErrRange, api.ErrPoor, api.OK, api.ErrOver, api.ErrOver)
	if n != 0 {
		t.Errorf("Get(3): %d", n)
	}
	if n, err := j.Get(0); n != 9 || err != api.OK {
		t.Errorf("Get(0): %d, %v", n, err)
	}
}

// TestFull: P10.3: 63, 64 and 65 levels; the one that is refused changes nothing, and one that is closed makes room. A move needs no room.
func TestFull(t *testing.T) {
	b := begun(t, 9, 5, 0)
	for depth := range 64 {
		opens(t, b.j, depth+1)
		b.x.want(action{name: "Begin"})
		b.does(t, action{name: "Add", i: 1, n: 1})
	}
	for range 3 {
		if n, err := b.j.Begin(); n != 0 || err != api.ErrFull || b.j.Depth() != 64 {
			t.Errorf("Begin at 64: %d, %v, %d", n, err, b.j.Depth())
		}
		b.stands(t, action{})
	}
	b.does(t, action{"Move", 0, 2, 4}, action{"Move", 0, 2, 6}, action{name: "Begin"}, action{name: "Undo"}, action{"Move", 0, 2, 4})
	b.does(t, action{name: "Begin"}, action{name: "Begin"}, action{name: "Keep"}, action{name: "Keep"}, action{name: "Begin"}, action{name: "Begin"}, action{name: "Begin"}, action{name: "Back", i: 65})
	for range 66 {
		b.does(t, action{name: "Undo"})
	}
	holds(t, b.j, 9, 5, 0)
}

// TestNoneOpen: P10.3: Keep and Undo of no level, and Back to the only depth there is; what was done without a level stays.
func TestNoneOpen(t *testing.T) {
	j := table(t)
	gives(t, []api.Errno{j.Keep(), j.Undo(), j.Back(0), j.Back(1), j.Back(-1)}, api.ErrState, api.ErrState, api.OK, api.ErrRange, api.ErrRange)
	touches(t, j)
	holds(t, j, 9, 5, 0)
	opens(t, j, 1)
	gives(t, []api.Errno{j.Keep(), j.Keep(), j.Undo()}, api.OK, api.ErrState, api.ErrState)
	opens(t, j, 1)
	gives(t, []api.Errno{j.Set(0, 1), j.Keep(), j.Undo(), j.Set(1, 1), j.Undo()}, api.OK, api.OK, api.ErrState, api.OK, api.ErrState)
	holds(t, j, 1, 1, 0)
	opens(t, j, 1)
	touches(t, j)
	gives(t, []api.Errno{j.Undo()}, api.OK)
	holds(t, j, 1, 1, 0)
}

// TestBack: P10.3: from each number of levels to each depth, and beyond.
func TestBack(t *testing.T) {
	for open := range 65 {
		for _, depth := range []int{math.MinInt, -64, -1, 0, 1, 2, open / 2, open - 2, open - 1, open, open + 1, open + 2, 64, 65, math.MaxInt} {
			b := begun(t, 9, 5, 0, 100)
			for level := range open {
				b.does(t, action{name: "Begin"})
				b.does(t, action{name: "Set", i: level % 3, n: uint64(level)}, action{name: "Sub", i: 3, n: 1})
			}
			b.does(t, action{name: "Back", i: depth})
			b.does(t, action{name: "Add", i: 1, n: 1}, action{name: "Undo"}, action{name: "Keep"}, action{name: "Back"})
		}
	}
}

// TestTouched: P10.4: a cell is touched by each call that returned OK, whatever became of its amount, and by no other one.
func TestTouched(t *testing.T) {
	j := table(t)
	touches(t, j)
	opens(t, j, 1)
	touches(t, j)
	gives(t, []api.Errno{j.Sub(0, 10), j.Add(3, 1), j.Set(-1, 0), j.Move(0, 2, 10), j.Move(0, 3, 1), j.Move(1, 1, 1)}, api.ErrPoor, api.ErrRange, api.ErrRange, api.ErrPoor, api.ErrRange, api.ErrArg)
	j.Get(0)
	touches(t, j)
	gives(t, []api.Errno{j.Set(1, 5)}, api.OK)
	touches(t, j, 1)
	gives(t, []api.Errno{j.Sub(0, 0)}, api.OK)
	touches(t, j, 0, 1)
	gives(t, []api.Errno{j.Add(2, 0), j.Set(1, 6)}, api.OK, api.OK)
	touches(t, j, 0, 1, 2)
	gives(t, []api.Errno{j.Undo()}, api.OK)
	touches(t, j)
	holds(t, j, 9, 5, 0)
	opens(t, j, 1)
	gives(t, []api.Errno{j.Move(2, 0, 0)}, api.OK)
	touches(t, j, 0, 2)
	gives(t, []api.Errno{j.Set(2, m), j.Undo(), j.Set(2, m)}, api.OK, api.OK, api.OK)
	opens(t, j, 1)
	gives(t, []api.Errno{j.Move(1, 2, 5), j.Move(1, 2, 1), j.Move(1, 2, 6)}, api.ErrOver, api.ErrOver, api.ErrPoor)
	touches(t, j)
}

// TestTouchedByLevels: P10.4: cells of a level that was kept count in the level below, those of one that was undone do not.
func TestTouchedByLevels(t *testing.T) {
	j := table(t)
	opens(t, j, 1)
	gives(t, []api.Errno{j.Set(1, 7)}, api.OK)
	opens(t, j, 2)
	touches(t, j)
	gives(t, []api.Errno{j.Set(0, 8), j.Undo()}, api.OK, api.OK)
	touches(t, j, 1)
	holds(t, j, 9, 7, 0)
	opens(t, j, 2)
	gives(t, []api.Errno{j.Set(2, 1), j.Set(1, 1)}, api.OK, api.OK)
	touches(t, j, 1, 2)
	gives(t, []api.Errno{j.Keep()}, api.OK)
	touches(t, j, 1, 2)
	opens(t, j, 2)
	opens(t, j, 3)
	gives(t, []api.Errno{j.Set(0, 3)}, api.OK)
	gives(t, []api.Errno{j.Keep()}, api.OK)
	touches(t, j, 0)
	gives(t, []api.Errno{j.Undo()}, api.OK)
	touches(t, j, 1, 2)
	holds(t, j, 9, 1, 1)
	gives(t, []api.Errno{j.Keep()}, api.OK)
	touches(t, j)
	holds(t, j, 9, 1, 1)
}

// TestKeptThenUndone: P10.6: a kept level is undone together with the level below, whichever of both touched a cell, and how often.
func TestKeptThenUndone(t *testing.T) {
	for kept := 1; kept < 20; kept++ {
		j := table(t)
		opens(t, j, 1)
		gives(t, []api.Errno{j.Set(0, 1)}, api.OK)
		for n := range kept {
			opens(t, j, n+2)
			gives(t, []api.Errno{j.Set(0, uint64(n)), j.Set(n%3, m), j.Set(1, uint64(n)), j.Set(1, 0)}, api.OK, api.OK, api.OK, api.OK)
		}
		for range kept {
			gives(t, []api.Errno{j.Keep()}, api.OK)
		}
		if kept < 3 {
			touches(t, j, 0, 1)
		} else {
			touches(t, j, 0, 1, 2)
		}
		gives(t, []api.Errno{j.Undo(), j.Undo()}, api.OK, api.ErrState)
		holds(t, j, 9, 5, 0)
	}
}

// TestCopies: P10.4: a copy has the cells, the levels and what was touched in each; it and its original go on, each without the other one.
func TestCopies(t *testing.T) {
	for _, closing := range []string{"Keep", "Undo"} {
		for depth := range 6 {
			b := begun(t, 9, 5, 0, 3)
			for level := range depth {
				b.does(t, action{name: "Begin"}, action{name: "Set", i: level % 4, n: 70}, action{"Move", level % 4, 3 - level%4, 1})
			}
			c := b.copied()
			d := c.copied()
			c.stands(t, action{name: "Copy"})
			c.does(t, action{name: "Set", i: 1, n: 8}, action{name: "Begin"}, action{name: "Set", i: 2, n: 6})
			b.stands(t, action{name: "Copy"})
			d.stands(t, action{name: "Copy"})
			b.does(t, action{name: "Set", i: 0, n: 2}, action{name: "Begin"}, action{name: "Set", i: 3, n: 1}, action{name: "Keep"})
			for range depth + 1 {
				c.does(t, action{name: closing})
				b.stands(t, action{name: "Copy"})
				d.stands(t, action{name: "Copy"})
			}
			for range depth {
				b.does(t, action{name: "Undo"})
				c.stands(t, action{name: "Copy"})
				d.stands(t, action{name: "Copy"})
			}
			d.does(t, action{name: "Back"})
			holds(t, d.j, 9, 5, 0, 3)
		}
	}
}

// TestCopyOfFull: P10.4: a copy of 64 levels and 4,096 touched cells is full too, and goes all the way back.
func TestCopyOfFull(t *testing.T) {
	b := begun(t, make([]uint64, 4096)...)
	for level := range 64 {
		b.does(t, action{name: "Begin"})
		for i := level * 64; i < 4096; i += 97 {
			if b.j.Add(i, uint64(level)) != api.OK {
				t.Fatal(i)
			}
			b.x.want(action{"Add", i, 0, uint64(level)})
		}
	}
	c := b.copied()
	c.does(t, action{name: "Begin"}, action{name: "Keep"}, action{name: "Undo"}, action{name: "Back", i: 9}, action{name: "Back"})
	b.stands(t, action{name: "Copy"})
	holds(t, c.j, make([]uint64, 4096)...)
	for range 64 {
		b.does(t, action{name: "Keep"})
	}
}

// mixed tells an action of any kind, more often a change than not, with cells and amounts at the edges and between.
func mixed(r *rand.Rand, cells, depth int) action {
	names := append(actions(), "Set", "Add", "Sub", "Move", "Set", "Add", "Sub", "Move", "Begin")
	if depth > 60 {
		names = append(names, "Begin", "Begin")
	}
	a := action{name: names[r.IntN(len(names))], i: r.IntN(cells), k: r.IntN(cells)}
	a.n = []uint64{0, 1, m, m - 1, 1 << 63, uint64(r.IntN(10)), uint64(r.IntN(10)), r.Uint64()}[r.IntN(8)]
	if r.IntN(30) == 0 {
		a.i = r.IntN(cells+4) - 2
	}
	if a.name == "Back" {
		a.i = depth - r.IntN(4) + 1
	}
	return a
}

// TestWalks: P10.2 to P10.6: long walks of all calls, by journals and their copies, as the chapter's words say.
func TestWalks(t *testing.T) {
	r := rand.New(rand.NewPCG(10, 1))
	for _, cells := range []int{1, 2, 3, 4, 7, 40} {
		for range 12 {
			l := []both{begun(t, make([]uint64, cells)...)}
			for range 1200 {
				at := r.IntN(len(l))
				l[at].does(t, mixed(r, cells, l[at].j.Depth()))
				if r.IntN(50) == 0 {
					l = append(l, l[at].copied())
				}
				if len(l) > 4 {
					l = slices.Delete(l, at, at+1)
				}
				for _, other := range l {
					other.stands(t, action{name: "of another one"})
				}
			}
		}
	}
}

// TestDeepWalks: P10.3 and P10.5: walks that open more levels than they close, up to the limit.
func TestDeepWalks(t *testing.T) {
	r := rand.New(rand.NewPCG(10, 2))
	for range 20 {
		b := begun(t, make([]uint64, 5)...)
		for range 400 {
			if r.IntN(3) == 0 {
				b.does(t, action{name: "Begin"})
			}
			if a := mixed(r, 5, b.j.Depth()); a.name != "Back" || r.IntN(9) == 0 {
				b.does(t, a)
			}
		}
		for b.j.Depth() > 0 {
			b.does(t, action{name: []string{"Keep", "Undo"}[r.IntN(2)]})
		}
	}
}

// TestBackRestores: P10.5: whatever is done above a depth, Back to it restores all cells, and what was touched there.
func TestBackRestores(t *testing.T) {
	r := rand.New(rand.NewPCG(10, 3))
	for range 300 {
		cells := 1 + r.IntN(6)
		j, _ := journal.New(cells)
		for range r.IntN(30) {
			if a := mixed(r, cells, j.Depth()); a.name != "Back" {
				do(j, a)
			}
		}
		depth, before, touched := j.Depth(), j.Cells(), j.Touched()
		if _, err := j.Begin(); err != api.OK {
			t.Fatal(err)
		}
		for range r.IntN(60) {
			a := mixed(r, cells, j.Depth())
			if closes := a.name == "Keep" || a.name == "Undo"; closes && j.Depth() == depth+1 || a.name == "Back" && a.i <= depth {
				continue
			}
			do(j, a)
		}
		gives(t, []api.Errno{j.Back(depth)}, api.OK)
		holds(t, j, before...)
		touches(t, j, touched...)
	}
}

// TestKeepingAll: P10.6: levels that are all kept give the amounts of no levels at all; cells that are not touched hold what they held when the topmost level was opened.
func TestKeepingAll(t *testing.T) {
	r := rand.New(rand.NewPCG(10, 4))
	for range 200 {
		cells := 1 + r.IntN(6)
		j, _ := journal.New(cells)
		plain, _ := journal.New(cells)
		opened := [][]uint64{}
		for range 80 {
			a := mixed(r, cells, j.Depth())
			switch a.name {
			case "Undo", "Back":
				continue
			case "Begin":
				opened = append(opened, j.Cells())
			case "Keep":
				opened = opened[:max(0, len(opened)-1)]
			}
			_, err := do(j, a)
			if a.name != "Begin" && a.name != "Keep" {
				_, without := do(plain, a)
				gives(t, []api.Errno{err}, without)
			}
			holds(t, j, plain.Cells()...)
			for i, n := range j.Cells() {
				if len(opened) > 0 && !slices.Contains(j.Touched(), i) && n != opened[len(opened)-1][i] {
					t.Fatalf("cell %d was not touched, and changed", i)
				}
			}
		}
		for j.Depth() > 0 {
			gives(t, []api.Errno{j.Keep()}, api.OK)
		}
		holds(t, j, plain.Cells()...)
	}
}
