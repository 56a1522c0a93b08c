package active_test

import "testing"

// TestExamples: the chapter's table, each of its rows.
func TestExamples(t *testing.T) {
	l := amounts(5, 9, 5, 0, 7)
	rank(l, bools("11111")).is(t, told{numbers: numbers(1, 4, 0, 2)})
	rank(amounts(5, 9), bools("01")).is(t, told{numbers: numbers(1)})
	rank(amounts(5), nil).is(t, told{})

	choose(l, bools("11111"), 3).is(t, told{each: bools("11001")})
	choose(amounts(5, 9), bools("11"), 0).is(t, told{each: bools("00")})
	choose(nil, bools("1"), 1).is(t, told{each: bools("0")})

	diff(bools("11"), bools("011")).is(t, told{numbers: numbers(2), more: numbers(0)})
	diff(nil, nil).is(t, told{})

	sum(amounts(5, 9), bools("111")).is(t, told{n: 14})
	sum(amounts(m, m), bools("11")).is(t, told{n: m})
	floor(amounts(5, 9, 3), bools("11")).is(t, told{n: 5, some: true})
	floor(amounts(5), bools("11")).is(t, told{n: 0, some: true})
	floor(amounts(5), nil).is(t, told{})

	quorum(t, 0, 1)
	quorum(t, 3, 3)
	quorum(t, 100, 67)
	quorum(t, m, 12297829382473034411)
}
