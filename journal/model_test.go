package journal_test

import (
	"maps"
	"math"
	"math/big"
	"slices"
	"testing"

	"distraint/api"
	"distraint/journal"
)

const m = math.MaxUint64

// frame is an open level of a model: what all cells held when it was opened, and which were touched since.
type frame struct {
	cells   []uint64
	touched map[int]bool
}

// model is a journal by the chapter's words: each level has all cells as they were.
type model struct {
	cells  []uint64
	levels []frame
}

func (x *model) copied() *model {
	c := &model{cells: slices.Clone(x.cells)}
	for _, l := range x.levels {
		c.levels = append(c.levels, frame{slices.Clone(l.cells), maps.Clone(l.touched)})
	}
	return c
}

func (x *model) missing(cells ...int) bool {
	return slices.ContainsFunc(cells, func(i int) bool { return i < 0 || i > len(x.cells)-1 })
}

func (x *model) set(i int, n uint64) {
	x.cells[i] = n
	if top := len(x.levels) - 1; top >= 0 {
		x.levels[top].touched[i] = true
	}
}

// action is one call, with its arguments; which of them count is told by its name.
type action struct {
	name string
	i, k int
	n    uint64
}

// want is what the chapter's words say of an action: the number and the error that it returns.
func (x *model) want(a action) (uint64, api.Errno) {
	switch a.name {
	case "Get", "Set", "Add", "Sub":
		return x.wantOfCell(a)
	case "Move":
		return 0, x.wantMove(a)
	case "Back":
		if a.i < 0 || a.i > len(x.levels) {
			return 0, api.ErrRange
		}
		for len(x.levels) > a.i {
			x.undo()
		}
		return 0, api.OK
	case "Begin":
		if len(x.levels) == 64 {
			return 0, api.ErrFull
		}
		x.levels = append(x.levels, frame{slices.Clone(x.cells), map[int]bool{}})
		return uint64(len(x.levels)), api.OK
	}
	if len(x.levels) == 0 {
		return 0, api.ErrState
	}
	if a.name == "Undo" {
		x.undo()
		return 0, api.OK
	}
	x.keep()
	return 0, api.OK
}

func (x *model) wantOfCell(a action) (uint64, api.Errno) {
	if x.missing(a.i) {
		return 0, api.ErrRange
	}
	has := x.cells[a.i]
	switch {
	case a.name == "Get":
		return has, api.OK
	case a.name == "Add" && has > m-a.n:
		return 0, api.ErrOver
	case a.name == "Sub" && has < a.n:
		return 0, api.ErrPoor
	}
	x.set(a.i, map[string]uint64{"Set": a.n, "Add": has + a.n, "Sub": has - a.n}[a.name])
	return 0, api.OK
}

func (x *model) wantMove(a action) api.Errno {
	switch {
	case x.missing(a.i, a.k):
		return api.ErrRange
	case a.i == a.k:
		return api.ErrArg
	case x.cells[a.i] < a.n:
		return api.ErrPoor
	case x.cells[a.k] > m-a.n:
		return api.ErrOver
	}
	x.set(a.i, x.cells[a.i]-a.n)
	x.set(a.k, x.cells[a.k]+a.n)
	return api.OK
}

func (x *model) undo() {
	top := len(x.levels) - 1
	x.cells, x.levels = x.levels[top].cells, x.levels[:top]
}

func (x *model) keep() {
	top := len(x.levels) - 1
	if top > 0 {
		maps.Copy(x.levels[top-1].touched, x.levels[top].touched)
	}
	x.levels = x.levels[:top]
}

func (x *model) touched() []int {
	if len(x.levels) == 0 {
		return nil
	}
	return slices.Sorted(maps.Keys(x.levels[len(x.levels)-1].touched))
}

// do asks a journal for an action: the number and the error that it returns.
func do(j *journal.Journal, a action) (n uint64, err api.Errno) {
	switch a.name {
	case "Get":
		return j.Get(a.i)
	case "Set":
		return 0, j.Set(a.i, a.n)
	case "Add":
		return 0, j.Add(a.i, a.n)
	case "Sub":
		return 0, j.Sub(a.i, a.n)
	case "Move":
		return 0, j.Move(a.i, a.k, a.n)
	case "Begin":
		depth, err := j.Begin()
		return uint64(depth), err
	case "Keep":
		return 0, j.Keep()
	case "Undo":
		return 0, j.Undo()
	}
	return 0, j.Back(a.i)
}

// actions are the names of all of them.
func actions() []string {
	return []string{"Get", "Set", "Add", "Sub", "Move", "Begin", "Keep", "Undo", "Back"}
}

// both is a journal and its model.
type both struct {
	j *journal.Journal
	x *model
}

func begun(t *testing.T, cells ...uint64) both {
	t.Helper()
	j, err := journal.New(len(cells))
	if err != api.OK {
		t.Fatal(err)
	}
	b := both{j, &model{cells: make([]uint64, len(cells))}}
	for i, n := range cells {
		b.does(t, action{name: "Set", i: i, n: n})
	}
	return b
}

func (b both) copied() both { return both{b.j.Copy(), b.x.copied()} }

// does: an action returns what the chapter's words say, and the journal stands as they say.
func (b both) does(t *testing.T, l ...action) {
	t.Helper()
	for _, a := range l {
		want, wantErr := b.x.want(a)
		if n, err := do(b.j, a); n != want || err != wantErr {
			t.Fatalf("%+v: %d, %v; want %d, %v", a, n, err, want, wantErr)
		}
		b.stands(t, a)
	}
}

// stands: the journal stands as its model.
func (b both) stands(t *testing.T, after action) {
	t.Helper()
	if is := b.j.Cells(); !slices.Equal(is, b.x.cells) {
		t.Fatalf("after %+v: Cells %v; want %v", after, is, b.x.cells)
	}
	if is, want := b.j.Touched(), b.x.touched(); !slices.Equal(is, want) {
		t.Fatalf("after %+v: Touched %v; want %v", after, is, want)
	}
	if is := b.j.Depth(); is != len(b.x.levels) {
		t.Fatalf("after %+v: Depth %d; want %d", after, is, len(b.x.levels))
	}
}

// sum tells the exact sum of l.
func sum(l []uint64) *big.Int {
	total := new(big.Int)
	for _, n := range l {
		total.Add(total, new(big.Int).SetUint64(n))
	}
	return total
}
