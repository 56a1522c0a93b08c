package hop_test

import (
	"testing"

	"distraint/api"
)

// TestExamples: the chapter's table, each of its rows.
func TestExamples(t *testing.T) {
	check(t, list(one(0, 1, 2, 5), one(3, 2, 1, 5)), api.OK, 0)
	check(t, list(one(0, 1, 2, 5), one(0, 1, 2, 4)), api.ErrOrder, 1)
	check(t, list(one(0, 1, 1, 5)), api.ErrRange, 0)
	check(t, list(one(0, 1, 2, 5), one(64, 1, 2, 4)), api.ErrRange, 1)

	first := list(one(0, 1, 2, 5))
	add(one(0, 1, 2, 5), 1).is(t, first, refused(api.ErrCap))
	add(one(0, 1, 3, 5), 1).is(t, first, told{hops: list(one(0, 1, 2, 5), one(0, 1, 3, 5))})
	add(one(0, 1, 3, 4), 1).is(t, first, refused(api.ErrOrder))
	add(one(0, 1, 2, 5), 17).is(t, nil, refused(api.ErrRange))

	two := list(one(0, 1, 2, 5), one(1, 1, 2, 6))
	ripe(15, 10).is(t, two, told{ripe: two[:1], hops: two[1:]})
	ripe(14, 10).is(t, two, told{hops: two})
	next(10).is(t, two, told{n: 15, is: true})
	ripe(0, 10).is(t, two, refused(api.ErrRange))

	three := list(one(0, 1, 2, 5), one(0, 1, 2, 6), one(0, 2, 1, 7))
	count(0, 1, 2).is(t, three, told{n: 2})
	into(0, 1).is(t, three, told{hops: list(one(0, 2, 1, 7))})

	encoding().is(t, list(one(0, 1, 2, 300)), told{bytes: []byte{1, 0, 1, 2, 172, 2}})
	read(t, []byte{1, 0, 1, 2, 172, 2}, list(one(0, 1, 2, 300)), api.Fault{})
	refuses(t, []byte{1, 0, 1, 1, 5}, api.ErrRange, 3)
	refuses(t, []byte{2, 0, 1, 2, 5, 0, 1, 2, 4}, api.ErrOrder, 8)
	refuses(t, []byte{1, 64}, api.ErrRange, 1)
}
