package roster_test

import (
	"testing"

	"distraint/api"
)

// TestPunished: P16.5, written out: for both classes, of validators that were punished for none, one or both of them.
func TestPunished(t *testing.T) {
	for _, status := range []int{idle, active, jailed} {
		l := append(states(), one(40, 7, status, 30, clean), one(41, 7, status, 30, props))
		punished(10, api.ClassAttest).is(t, l, told{})
		punished(10, api.ClassPropose).is(t, l, told{})
		punished(11, api.ClassAttest).is(t, l, told{})
		punished(11, api.ClassPropose).is(t, l, refused(api.ErrPunished))
	}
	for _, flags := range []int{atts, both} {
		l := append(states(), one(40, 7, tomb, 30, flags))
		punished(10, api.ClassAttest).is(t, l, refused(api.ErrTomb))
		punished(10, api.ClassPropose).is(t, l, refused(api.ErrTomb))
	}
}

// TestPunishNone: P16.5: numbers that are no class, ahead of those that are no validator's, of tombstones, of what was punished already, and of heights that are out of bounds.
func TestPunishNone(t *testing.T) {
	for _, l := range valids() {
		for _, class := range classless() {
			for _, v := range append(foreign(), 0, 5, 8, 9, len(l)) {
				punished(v, class).is(t, l, refused(api.ErrArg))
				for _, until := range []int{-1, 0, 1, top, top + 1} {
					punish(v, class, until).is(t, l, refused(api.ErrArg))
				}
			}
		}
	}
}

// TestPunishUnknown: P16.5: numbers that are no validator's, ahead of heights that are out of bounds.
func TestPunishUnknown(t *testing.T) {
	for _, l := range valids() {
		for _, v := range append(foreign(), len(l), len(l)+1) {
			for _, class := range []int{api.ClassAttest, api.ClassPropose} {
				punished(v, class).is(t, l, refused(api.ErrUnknown))
				for _, until := range []int{-1, 0, 1, top, top + 1} {
					punish(v, class, until).is(t, l, refused(api.ErrUnknown))
				}
			}
		}
	}
}

// TestPunishAgain: P16.5: who is tombstoned, and who was punished for the class, ahead of heights that are out of bounds.
func TestPunishAgain(t *testing.T) {
	for _, until := range append(endless(), 0, 1, 30, top) {
		for v, x := range states() {
			switch {
			case x.Status == tomb:
				punish(v, api.ClassAttest, until).is(t, states(), refused(api.ErrTomb))
				punish(v, api.ClassPropose, until).is(t, states(), refused(api.ErrTomb))
			case x.Propose:
				punish(v, api.ClassPropose, until).is(t, states(), refused(api.ErrPunished))
			}
		}
	}
}

// TestPunishBounds: P16.5: heights that are out of bounds, for each validator that can be punished.
func TestPunishBounds(t *testing.T) {
	for _, l := range valids() {
		for v, x := range l {
			for _, until := range append(endless(), 0) {
				if x.Status != tomb {
					punish(v, api.ClassAttest, until).is(t, l, refused(api.ErrRange))
				}
				if x.Status != tomb && !x.Propose {
					punish(v, api.ClassPropose, until).is(t, l, refused(api.ErrRange))
				}
			}
		}
	}
}

// TestPunish: P16.5: each state, for both classes, until heights ahead of the Until that is there, that one itself, and later ones; the others stay as they are.
func TestPunish(t *testing.T) {
	for _, before := range []int{0, 1, 2, 30, 1 << 32, top - 1, top} {
		for _, status := range []int{idle, active, jailed} {
			for _, until := range untils(before) {
				later := max(before, until)
				if before > 0 || status != jailed {
					l := append(states(), one(40, 7, status, before, clean))
					punish(10, api.ClassAttest, until).is(t, l, told{roster: append(states(), one(40, 7, tomb, later, atts))})
					punish(10, api.ClassPropose, until).is(t, l, told{roster: append(states(), one(40, 7, jailed, later, props))})
				}
				if before > 0 {
					l := append(states(), one(40, 7, status, before, props))
					punish(10, api.ClassAttest, until).is(t, l, told{roster: append(states(), one(40, 7, tomb, later, both))})
				}
			}
		}
	}
}

// TestPunishEach: P16.5: each validator of a roster, by its number.
func TestPunishEach(t *testing.T) {
	for _, l := range valids() {
		for v, x := range l {
			if x.Status == tomb {
				continue
			}
			punish(v, api.ClassAttest, 55).is(t, l, told{roster: with(l, v, func(x *api.Validator) {
				x.Attest, x.Status, x.Until = true, tomb, max(x.Until, 55)
			})})
			if x.Propose {
				continue
			}
			punish(v, api.ClassPropose, 55).is(t, l, told{roster: with(l, v, func(x *api.Validator) {
				x.Propose, x.Status, x.Until = true, jailed, max(x.Until, 55)
			})})
		}
	}
}
