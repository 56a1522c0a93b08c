package journal

import (
	"math/rand/v2"
	"testing"

	"distraint/api"
)

// lists: each level has one change for each cell that was touched in it, and there are no other ones.
func lists(t *testing.T, j *Journal) {
	t.Helper()
	total := 0
	for at, l := range j.levels {
		seen := map[int]bool{}
		for c := range j.changes(at) {
			if _, known := l.touched[c.cell]; !known || seen[c.cell] {
				t.Fatalf("level %d: a change of the cell %d, which is known (%v) or not touched", at, c.cell, seen[c.cell])
			}
			seen[c.cell] = true
		}
		if len(seen) != len(l.touched) {
			t.Fatalf("level %d: changes of %d cells; %d are touched", at, len(seen), len(l.touched))
		}
		total += len(seen)
	}
	for c := j.newest; c != nil; c = c.older {
		total--
	}
	if total != 0 {
		t.Fatalf("the list has %d changes more than the levels", -total)
	}
}

// TestListStaysShort: what is kept in mind is no more than what can be undone, however many calls there were, and however many levels were kept.
func TestListStaysShort(t *testing.T) {
	j, err := New(3)
	if err != api.OK {
		t.Fatal(err)
	}
	r := rand.New(rand.NewPCG(10, 5))
	for range 20000 {
		switch r.IntN(7) {
		case 0, 1:
			j.Begin()
		case 2:
			j.Keep()
		case 3:
			j.Undo()
		case 4:
			j.Add(r.IntN(3), 5)
		case 5:
			j.Move(r.IntN(3), r.IntN(3), uint64(r.IntN(9)))
		case 6:
			if r.IntN(20) == 0 {
				j.Back(r.IntN(j.Depth() + 1))
			}
			lists(t, j.Copy())
		}
		lists(t, j)
	}
	j.Back(0)
	for range 1000 {
		j.Set(0, 1)
	}
	lists(t, j)
}
