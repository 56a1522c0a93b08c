package queue_test

import (
	"testing"

	"distraint/api"
	"distraint/queue"
)

// TestExamples: the chapter's table, each of its rows.
func TestExamples(t *testing.T) {
	s := hopped(3, 6, 2, 5)
	var l []api.Entry
	for _, x := range []api.Entry{entry(0, bare(2, 5), 9, 10), entry(1, bare(2, 5), 9, 20), entry(0, s, 12, 30)} {
		after, err := queue.Add(l, x, 2)
		if err != api.OK {
			t.Fatalf("Add(%v, %v): %v", l, x, err)
		}
		l = after
	}
	check(t, l, api.OK, 0)
	live(0, 2).is(t, l, told{n: 1})
	live(0, 3).is(t, l, told{n: 1})
	live(1, 3).is(t, l, told{n: 0})
	total().is(t, l, told{n: 60})
	belonging(0).is(t, l, told{queue: list(l[0], l[2])})

	cut(2, 6, 500000000).is(t, l, told{queue: list(cutTo(l[0], 5), cutTo(l[1], 10), cutTo(l[2], 15)), shaves: []api.Shave{shave(0, 5), shave(1, 10), shave(2, 15)}, n: 30})
	cut(2, 9, 500000000).is(t, l, told{queue: list(cutTo(l[0], 5), cutTo(l[1], 10), l[2]), shaves: []api.Shave{shave(0, 5), shave(1, 10)}, n: 15})
	cut(2, 10, 1000000000).is(t, l, told{queue: l})
	cut(3, 12, 1000000000).is(t, l, told{queue: list(l[0], l[1], cutTo(l[2], 0)), shaves: []api.Shave{shave(2, 30)}, n: 30})
	cut(32, 1, 0).is(t, l, refused(api.ErrRange))
	cut(0, 1, 1000000001).is(t, l, refused(api.ErrRange))

	ripe(18, 10).is(t, l, told{queue: l})
	ripe(19, 10).is(t, l, told{ripe: l[:2], queue: l[2:]})
	ripe(0, 10).is(t, l, refused(api.ErrRange))

	add(entry(0, s, 11, 1), 2).is(t, l, refused(api.ErrOrder))
	add(entry(0, bare(2, 5), 12, 1), 1).is(t, l, refused(api.ErrCap))
	add(entry(0, bare(2, 5), 12, 0), 1).is(t, l, refused(api.ErrDust))
	add(cutTo(entry(0, bare(2, 5), 12, 3), 2), 1).is(t, l, refused(api.ErrState))
	add(entry(0, bare(2, 5), 12, 1), 17).is(t, l, refused(api.ErrRange))

	encoding().is(t, l[:1], told{bytes: []byte{1, 0, 2, 5, 0, 0, 9, 10, 10}})
	read(t, []byte{1, 0, 2, 5, 0, 0, 9, 10, 10}, l[:1], api.Fault{})
	read(t, []byte{1, 0, 2, 5, 0, 0, 4, 1, 1}, nil, fault(api.ErrOrder, 1))
	read(t, []byte{1, 64}, nil, fault(api.ErrRange, 1))
}

// TestWholeExample: the document's fourth example: a cut of half at the height 6 takes 15 of an entry of 30 that backed the validator then, although it was redelegated and undelegated since.
func TestWholeExample(t *testing.T) {
	x := entry(0, hopped(3, 6, 2, 5), 12, 30)
	cut(2, 6, 500000000).is(t, list(x), told{queue: list(cutTo(x, 15)), shaves: []api.Shave{shave(0, 15)}, n: 15})
}
