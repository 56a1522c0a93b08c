package holding_test

import (
	"testing"

	"distraint/api"
	"distraint/holding"
)

// TestExamples: the chapter's table, each of its rows.
func TestExamples(t *testing.T) {
	a, b := bare(2, 5), bare(3, 6)
	var h api.Holding
	for _, x := range []struct {
		owner int
		s     api.Stamp
		n     uint64
	}{{0, a, 10}, {1, a, 10}, {1, b, 7}} {
		after, n, err := holding.Join(h, x.owner, x.s, x.n)
		if n != x.n || err != api.OK {
			t.Fatalf("Join(%v, %d, %v, %d): %d, %v", h, x.owner, x.s, x.n, n, err)
		}
		h = after
	}
	if !same(h, begun()) {
		t.Fatalf("begun: %v", h)
	}
	less := of(classes(class(a, 18, 20), class(b, 7, 7)), h.Positions...)
	cut(2, 5, 100000000).is(t, h, told{holding: less, losses: []api.Loss{loss(a, 2)}, n: 2})
	left := of(classes(class(a, 14, 15), class(b, 7, 7)), part(0, a, 10), part(1, a, 5), part(1, b, 7))
	leave(1, a, 5).is(t, less, told{holding: left, n: 4})
	value(0, a).is(t, left, told{n: 9})
	own(1, 2).is(t, left, told{n: 4})
	cut(2, 4, 1000000000).is(t, h, told{holding: h})
	cut(3, 9, 1000000000).is(t, h, told{holding: of(classes(class(a, 20, 20)), part(0, a, 10), part(1, a, 10)), losses: []api.Loss{loss(b, 7)}, n: 7})
	cut(32, 1, 0).is(t, h, refused(api.ErrRange))
	leave(0, b, 1).is(t, h, refused(api.ErrUnknown))
	leave(0, a, 11).is(t, h, refused(api.ErrPoor))
	leave(0, a, 0).is(t, h, refused(api.ErrDust))
	leave(1, b, 7).is(t, h, told{holding: of(classes(class(a, 20, 20)), part(0, a, 10), part(1, a, 10)), n: 7})
	join(64, a, 1).is(t, h, refused(api.ErrRange))
	join(0, a, 0).is(t, h, refused(api.ErrDust))
	join(0, a, 4611686018427387904).is(t, h, refused(api.ErrOver))
	tokens(2).is(t, h, told{n: 20})
	total().is(t, h, told{n: 27})
	exposed(2, 5).is(t, h, told{classes: classes(class(a, 20, 20))})
}
