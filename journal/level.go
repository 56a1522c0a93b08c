package journal

import "iter"

// A change gives a cell back what it held. It gets the cells, rather than keeping them, as a journal's copy has the same changes of other cells.
type change struct {
	cell  int
	undo  func(cells []uint64)
	older *change
}

// A level is a mark in the list of changes: all that are newer were made in it, or in levels above. Of each cell that was touched in the level the list has its first change alone, which undoes the later ones too: so the list does not grow with the number of calls.
type level struct {
	mark    *change
	touched map[int]struct{}
}

// put makes a cell hold n.
func (j *Journal) put(i int, n uint64) {
	was := j.cells[i]
	j.record(i, func(cells []uint64) { cells[i] = was })
	j.cells[i] = n
}

// record touches a cell in the topmost level, if there is one, and lists how its first change there is undone.
func (j *Journal) record(cell int, undo func(cells []uint64)) {
	if len(j.levels) == 0 {
		return
	}
	touched := j.levels[len(j.levels)-1].touched
	if _, known := touched[cell]; known {
		return
	}
	touched[cell] = struct{}{}
	j.newest = &change{cell: cell, undo: undo, older: j.newest}
}

// changes yields what was changed in an open level, and not in the one above it, from the newest change on.
func (j *Journal) changes(at int) iter.Seq[*change] {
	newest, mark := j.newest, j.levels[at].mark
	if at+1 < len(j.levels) {
		newest = j.levels[at+1].mark
	}
	return func(yield func(*change) bool) {
		for c := newest; c != mark; c = c.older {
			if !yield(c) {
				return
			}
		}
	}
}

func (j *Journal) open() {
	j.levels = append(j.levels, level{mark: j.newest, touched: map[int]struct{}{}})
}

// shut closes the topmost level, and tells what was changed in it.
func (j *Journal) shut() iter.Seq[*change] {
	top := len(j.levels) - 1
	changes := j.changes(top)
	j.newest = j.levels[top].mark
	// What is cut off is still in memory: it should hold on to no changes.
	j.levels[top] = level{}
	j.levels = j.levels[:top:top]
	return changes
}

// keep closes the topmost level, whose changes become those of the level below.
func (j *Journal) keep() {
	for c := range j.shut() {
		j.record(c.cell, c.undo)
	}
}

// undo closes the topmost level, and takes its changes back.
func (j *Journal) undo() {
	for c := range j.shut() {
		c.undo(j.cells)
	}
}
