package roster_test

import (
	"math"
	"testing"

	"distraint/api"
)

// untils are heights until which somebody may be jailed: at both bounds, and at each side of n.
func untils(n int) (l []int) {
	for _, until := range []int{1, 2, n - 1, n, n + 1, 1 << 32, 1<<32 + 1, top - 1, top} {
		if until >= 1 && until <= top {
			l = append(l, until)
		}
	}
	return l
}

// TestJail: P16.4: each status, until heights ahead of the Until that is there, that one itself, and later ones; the others stay as they are.
func TestJail(t *testing.T) {
	for _, before := range []int{0, 1, 2, 30, 1 << 32, top - 1, top} {
		for _, x := range [][2]int{{idle, clean}, {idle, props}, {active, clean}, {active, props}, {jailed, clean}, {jailed, props}} {
			if before == 0 && (x[0] == jailed || x[1] != clean) {
				continue // there is no such validator
			}
			l := append(states(), one(40, 7, x[0], before, x[1]))
			for _, until := range untils(before) {
				want := append(states(), one(40, 7, jailed, max(before, until), x[1]))
				jail(10, until).is(t, l, told{roster: want})
			}
		}
	}
}

// TestJailEach: P16.4: each validator of a roster, by its number.
func TestJailEach(t *testing.T) {
	for _, l := range valids() {
		for v, x := range l {
			if x.Status == tomb {
				jail(v, 55).is(t, l, refused(api.ErrTomb))
				continue
			}
			jail(v, 55).is(t, l, told{roster: with(l, v, func(x *api.Validator) { x.Status, x.Until = jailed, max(x.Until, 55) })})
		}
	}
}

// TestJailWrong: P16.4: numbers that are no validator's, ahead of tombstoned ones, ahead of heights that are out of bounds.
func TestJailWrong(t *testing.T) {
	for _, l := range valids() {
		for _, until := range append(endless(), 0, 1, 30, top) {
			for _, v := range append(foreign(), len(l)) {
				jail(v, until).is(t, l, refused(api.ErrUnknown))
			}
			for v, x := range l {
				switch {
				case x.Status == tomb:
					jail(v, until).is(t, l, refused(api.ErrTomb))
				case until < 1 || until > top:
					jail(v, until).is(t, l, refused(api.ErrRange))
				}
			}
		}
	}
}

// TestUnjail: P16.4: at each side of the height Until, by the operator; it is idle then, and nothing else changes.
func TestUnjail(t *testing.T) {
	for _, until := range []int{1, 2, 30, 1 << 32, top - 1, top} {
		for _, flags := range []int{clean, props} {
			l := append(states(), one(40, 7, jailed, until, flags))
			free := append(states(), one(40, 7, idle, until, flags))
			for _, h := range []int{math.MinInt, -1, 0, until - 2, until - 1} {
				unjail(10, 40, h).is(t, l, refused(api.ErrJailed))
			}
			for _, h := range []int{until, until + 1, top, top + 1, math.MaxInt} {
				unjail(10, 40, h).is(t, l, told{roster: free})
			}
		}
	}
}

// TestUnjailOthers: P16.4: by everybody but the operator, whatever the status and the height are, other validators' operators among them.
func TestUnjailOthers(t *testing.T) {
	for _, l := range valids() {
		for v, x := range l {
			for _, h := range []int{0, 1, x.Until - 1, x.Until, top} {
				for by := -1; by < 66; by++ {
					if by != x.Operator {
						unjail(v, by, h).is(t, l, refused(api.ErrAuth))
					}
				}
				for _, by := range strangers() {
					unjail(v, by, h).is(t, l, refused(api.ErrAuth))
				}
			}
		}
	}
}

// TestUnjailStatus: P16.4: of each status, by its operator, ahead of its Until and behind it.
func TestUnjailStatus(t *testing.T) {
	for _, l := range valids() {
		for v, x := range l {
			for _, h := range []int{math.MinInt, -1, 0, 1, x.Until - 1, x.Until, x.Until + 1, top, math.MaxInt} {
				c := unjail(v, x.Operator, h)
				switch {
				case x.Status == tomb:
					c.is(t, l, refused(api.ErrTomb))
				case x.Status != jailed:
					c.is(t, l, refused(api.ErrState))
				case h < x.Until:
					c.is(t, l, refused(api.ErrJailed))
				default:
					c.is(t, l, told{roster: with(l, v, func(x *api.Validator) { x.Status = idle })})
				}
			}
		}
	}
}

// TestUnjailUnknown: P16.4: numbers that are no validator's, ahead of all else.
func TestUnjailUnknown(t *testing.T) {
	for _, l := range valids() {
		for _, v := range append(foreign(), len(l), len(l)+1) {
			for _, by := range []int{-1, 0, 5, 64} {
				unjail(v, by, 0).is(t, l, refused(api.ErrUnknown))
				unjail(v, by, top).is(t, l, refused(api.ErrUnknown))
			}
		}
	}
}
