package period_test

import (
	"testing"

	"distraint/api"
	"distraint/period"
)

// TestUnbonding: P8.3: Ripe and Alive on both sides of their bounds, written out; c greater than h among them.
func TestUnbonding(t *testing.T) {
	for _, x := range []struct {
		unbonding, c, h int
		ripe, alive     bool
	}{
		{1, 1, 1, false, true}, {1, 1, 2, true, true}, {1, 1, 3, true, false}, {1, 1, 4294967296, true, false},
		{1, 5, 4, false, true}, {1, 5, 5, false, true}, {1, 5, 6, true, true}, {1, 5, 7, true, false},
		{1, 4294967296, 1, false, true}, {1, 4294967296, 4294967296, false, true}, {1, 4294967295, 4294967296, true, true}, {1, 4294967294, 4294967296, true, false},
		{100, 7, 1, false, true}, {100, 7, 6, false, true}, {100, 7, 7, false, true}, {100, 7, 106, false, true}, {100, 7, 107, true, true}, {100, 7, 108, true, false},
		{100, 106, 7, false, true}, {100, 107, 7, false, true}, {100, 108, 7, false, true},
		{1048576, 1, 1048576, false, true}, {1048576, 1, 1048577, true, true}, {1048576, 1, 1048578, true, false}, {1048576, 1, 4294967296, true, false},
		{1048576, 4293918721, 4294967296, false, true}, {1048576, 4293918720, 4294967296, true, true}, {1048576, 4293918719, 4294967296, true, false}, {1048576, 4294967296, 4294967296, false, true},
	} {
		p := of(func(p *api.Params) { p.Unbonding, p.MaxAge = x.unbonding, 0 })
		if ripe, err := period.Ripe(p, x.c, x.h); ripe != x.ripe || err != api.OK {
			t.Errorf("Ripe(%+v, %d, %d): %v, %v; want %v", p, x.c, x.h, ripe, err, x.ripe)
		}
		if alive, err := period.Alive(p, x.c, x.h); alive != x.alive || err != api.OK {
			t.Errorf("Alive(%+v, %d, %d): %v, %v; want %v", p, x.c, x.h, alive, err, x.alive)
		}
	}
}

// TestNoted: P8.3: Noted on both sides of its bounds, written out.
func TestNoted(t *testing.T) {
	for _, x := range []struct {
		window, g, h int
		noted        bool
	}{
		{1, 1, 1, true}, {1, 1, 2, false}, {1, 5, 4, false}, {1, 5, 5, true}, {1, 5, 6, false}, {1, 4294967296, 4294967296, true}, {1, 4294967295, 4294967296, false},
		{2, 5, 4, false}, {2, 5, 5, true}, {2, 5, 6, true}, {2, 5, 7, false},
		{50, 50, 1, false}, {50, 50, 49, false}, {50, 50, 50, true}, {50, 50, 99, true}, {50, 50, 100, false}, {50, 99, 50, false}, {50, 100, 50, false},
		{1048576, 1, 1, true}, {1048576, 1, 1048576, true}, {1048576, 1, 1048577, false}, {1048576, 2, 1, false},
		{1048576, 4293918721, 4294967296, true}, {1048576, 4293918720, 4294967296, false}, {1048576, 4294967296, 4294967296, true}, {1048576, 4294967296, 4294967295, false}, {1048576, 4294967296, 1, false}, {1048576, 1, 4294967296, false},
	} {
		p := of(func(p *api.Params) { p.CorrWindow = x.window })
		if noted, err := period.Noted(p, x.g, x.h); noted != x.noted || err != api.OK {
			t.Errorf("Noted(%+v, %d, %d): %v, %v; want %v", p, x.g, x.h, noted, err, x.noted)
		}
	}
}

// TestAged: P8.3: Aged on both sides of its bounds, written out, with MaxAge 0, less than Unbonding, and as much.
func TestAged(t *testing.T) {
	for _, x := range []struct {
		unbonding, age, g, h int
		err                  api.Errno
	}{
		{1, 0, 1, 1, api.OK}, {1, 0, 1, 2, api.ErrOld}, {1, 0, 2, 1, api.ErrAhead}, {1, 0, 4294967296, 4294967296, api.OK}, {1, 0, 4294967295, 4294967296, api.ErrOld}, {1, 0, 4294967296, 4294967295, api.ErrAhead},
		{1048576, 0, 5, 5, api.OK}, {1048576, 0, 5, 6, api.ErrOld}, {1048576, 0, 6, 5, api.ErrAhead},
		{1, 1, 5, 5, api.OK}, {1, 1, 5, 6, api.OK}, {1, 1, 5, 7, api.ErrOld}, {1, 1, 6, 5, api.ErrAhead},
		{100, 30, 5, 4, api.ErrAhead}, {100, 30, 5, 5, api.OK}, {100, 30, 5, 35, api.OK}, {100, 30, 5, 36, api.ErrOld}, {100, 30, 35, 5, api.ErrAhead}, {100, 30, 36, 5, api.ErrAhead},
		{100, 100, 5, 105, api.OK}, {100, 100, 5, 106, api.ErrOld}, {100, 100, 6, 5, api.ErrAhead},
		{1048576, 1048576, 1, 1048577, api.OK}, {1048576, 1048576, 1, 1048578, api.ErrOld}, {1048576, 1048576, 1, 4294967296, api.ErrOld},
		{1048576, 1048576, 4293918720, 4294967296, api.OK}, {1048576, 1048576, 4293918719, 4294967296, api.ErrOld}, {1048576, 1048576, 4294967296, 1, api.ErrAhead},
	} {
		p := of(func(p *api.Params) { p.Unbonding, p.MaxAge = x.unbonding, x.age })
		if err := period.Aged(p, x.g, x.h); err != x.err {
			t.Errorf("Aged(%+v, %d, %d): %v; want %v", p, x.g, x.h, err, x.err)
		}
	}
}

// TestUntil: P8.3: until when, written out: also behind the greatest height of a block.
func TestUntil(t *testing.T) {
	for _, x := range []struct{ jail, h, until int }{
		{1, 1, 2}, {1, 4294967295, 4294967296}, {1, 4294967296, 4294967297},
		{20, 1, 21}, {20, 30, 50}, {20, 4294967296, 4294967316},
		{1048576, 1, 1048577}, {1048576, 4293918720, 4294967296}, {1048576, 4294967296, 4296015872},
	} {
		is(t, "Until", of(func(p *api.Params) { p.JailTime = x.jail }), x.h, x.until, api.OK)
	}
}

// aging are params with each edge of Unbonding, MaxAge, CorrWindow and JailTime, and some between.
func aging() []api.Params {
	var l []api.Params
	for _, unbonding := range []int{1, 2, 100, 1048575, 1048576} {
		for _, age := range []int{0, 1, unbonding / 2, unbonding - 1, unbonding} {
			for _, window := range []int{1, 2, 50, 1048576} {
				l = append(l, of(func(p *api.Params) {
					p.Unbonding, p.MaxAge, p.CorrWindow, p.JailTime = unbonding, age, window, window
				}))
			}
		}
	}
	return l
}

// TestAgeEdges: P8.3: pairs of heights on both sides of all bounds, in both orders, by the chapter's words.
func TestAgeEdges(t *testing.T) {
	for _, p := range aging() {
		for _, r := range requests() {
			for _, apart := range []int{0, p.Unbonding, p.MaxAge, p.CorrWindow} {
				for _, g := range []int{0, 1, 2, 77, top / 2, top - apart, top - 1, top, top + 1} {
					for h := g + apart - 2; h <= g+apart+2; h++ {
						r.tellsTrue(t, p, g, h)
						r.tellsTrue(t, p, h, g)
					}
				}
			}
		}
	}
}

// TestPunishable: P8.5: while what happened at g is not too old at h, nothing that was created at g or later was mature at h - 1, and a lot that moved at g or later can still be punished.
func TestPunishable(t *testing.T) {
	for _, p := range aging() {
		for _, g := range []int{1, 2, 77, top / 2, top - p.MaxAge - 3, top - p.MaxAge, top - 1, top} {
			for _, h := range []int{g - 1, g, g + 1, g + p.MaxAge/2, g + p.MaxAge - 1, g + p.MaxAge, g + p.MaxAge + 1, g + p.Unbonding, g + p.Unbonding + 1} {
				if h < 2 || h > top || period.Aged(p, g, h) == api.ErrOld {
					continue
				}
				for _, c := range []int{g, g + 1, g + p.MaxAge, g + p.Unbonding, top} {
					if c > top {
						continue
					}
					if ripe, err := period.Ripe(p, c, h-1); ripe || err != api.OK {
						t.Errorf("%+v: of %d at %d, what was created at %d was mature: %v", p, g, h, c, err)
					}
					if alive, err := period.Alive(p, c, h); !alive || err != api.OK {
						t.Errorf("%+v: of %d at %d, what moved at %d cannot be punished: %v", p, g, h, c, err)
					}
				}
			}
		}
	}
}
