package roster_test

import (
	"testing"

	"distraint/api"
	"distraint/roster"
)

// spoiler breaks one rule, whatever the validator is; first is the Operator of a validator before it.
type spoiler struct {
	name  string
	err   api.Errno
	spoil func(x *api.Validator, first int)
}

// spoilers break each rule for validators, in the order in which Check tells them.
func spoilers() (l []spoiler) {
	for _, n := range strangers() {
		l = append(l, spoiler{"operator", api.ErrRange, func(x *api.Validator, _ int) { x.Operator = n }})
	}
	for _, n := range statusless() {
		l = append(l, spoiler{"status", api.ErrRange, func(x *api.Validator, _ int) { x.Status = n }})
	}
	for _, n := range endless() {
		l = append(l, spoiler{"until", api.ErrRange, func(x *api.Validator, _ int) { x.Until = n }})
	}
	l = append(l,
		spoiler{"least", api.ErrArg, func(x *api.Validator, _ int) { x.MinSelf = 0 }},
		spoiler{"double", api.ErrDouble, func(x *api.Validator, first int) { x.Operator = first }})
	for _, s := range [][2]int{
		{idle, atts}, {idle, both}, {active, atts}, {active, both}, {jailed, atts}, {jailed, both}, {tomb, clean}, {tomb, props},
	} {
		l = append(l, spoiler{"tombstoned or not", api.ErrState, func(x *api.Validator, _ int) {
			*x = one(x.Operator, x.MinSelf, s[0], max(x.Until, 1), s[1])
		}})
	}
	for _, s := range [][2]int{{idle, props}, {active, props}, {jailed, clean}, {jailed, props}, {tomb, atts}, {tomb, both}} {
		l = append(l, spoiler{"never jailed or jailed", api.ErrState, func(x *api.Validator, _ int) {
			*x = one(x.Operator, x.MinSelf, s[0], 0, s[1])
		}})
	}
	return l
}

// rank tells where an error stands in the order of those that a validator may have.
func rank(err api.Errno) int {
	for i, e := range []api.Errno{api.ErrRange, api.ErrArg, api.ErrDouble, api.ErrState} {
		if e == err {
			return i
		}
	}
	return -1
}

// spoiled tells l, in which the rule is broken by validator i, and whether it can be: the first one has no validator before it.
func (s spoiler) spoiled(l []api.Validator, i int) ([]api.Validator, bool) {
	if i == 0 && s.err == api.ErrDouble {
		return nil, false
	}
	return with(l, i, func(x *api.Validator) { s.spoil(x, l[i/2].Operator) }), true
}

// TestName: P16.1: of the four statuses, of numbers just below and above, and of ones far from them.
func TestName(t *testing.T) {
	for status, want := range map[int]string{1: "idle", 2: "active", 3: "jailed", 4: "tomb"} {
		if is := roster.Name(status); is != want {
			t.Errorf("Name(%d): %q; want %q", status, is, want)
		}
	}
	for _, status := range statusless() {
		if is := roster.Name(status); is != "none" {
			t.Errorf("Name(%d): %q; want none", status, is)
		}
	}
}

// TestCheckValid: P16.1.
func TestCheckValid(t *testing.T) {
	for _, l := range valids() {
		check(t, l, api.OK, 0)
	}
	r := source(1)
	for range 2000 {
		check(t, drawn(r), api.OK, 0)
	}
}

// TestCheckAll: P16.1: one validator with all numbers at each side of their bounds, in all ways together, alone and behind another one.
func TestCheckAll(t *testing.T) {
	count := map[api.Errno]int{}
	for _, operator := range []int{-1, 0, 5, 63, 64} {
		for _, least := range []uint64{0, 1, great} {
			for status := range 6 {
				for _, until := range []int{-1, 0, 1, top, top + 1} {
					for flags := range 4 {
						x := one(operator, least, status, until, flags)
						err, at := checked(list(x))
						check(t, list(x), err, at)
						err, at = checked(list(one(5, 1, idle, 0, clean), x))
						check(t, list(one(5, 1, idle, 0, clean), x), err, at)
						count[err]++
					}
				}
			}
		}
	}
	for _, err := range []api.Errno{api.OK, api.ErrRange, api.ErrArg, api.ErrDouble, api.ErrState} {
		if count[err] < 50 {
			t.Errorf("%v: only %d", err, count[err])
		}
	}
}

// TestCheckStates: P16.1, written out: each status with each of the four ways in which the flags can stand, without and with an Until.
func TestCheckStates(t *testing.T) {
	never := map[[2]int]bool{{idle, clean}: true, {active, clean}: true}
	once := map[[2]int]bool{{idle, clean}: true, {idle, props}: true, {active, clean}: true, {active, props}: true, {jailed, clean}: true, {jailed, props}: true, {tomb, atts}: true, {tomb, both}: true}
	for status := 1; status <= 4; status++ {
		for flags := range 4 {
			for until, right := range map[int]map[[2]int]bool{0: never, 1: once, 30: once, top: once} {
				l := list(one(5, 1, status, until, flags))
				if right[[2]int{status, flags}] {
					check(t, l, api.OK, 0)
				} else {
					check(t, l, api.ErrState, 0)
				}
			}
		}
	}
}

// TestCheckEach: P16.1: each rule, broken alone by each validator.
func TestCheckEach(t *testing.T) {
	for _, l := range valids() {
		for i := range l {
			for _, s := range spoilers() {
				if spoiled, can := s.spoiled(l, i); can {
					check(t, spoiled, s.err, i)
				}
			}
		}
	}
}

// TestCheckOrderOfErrors: P16.1: of the rules that one validator breaks, the first one counts; of two validators, the first one, whatever they break.
func TestCheckOrderOfErrors(t *testing.T) {
	each := spoilers()
	l := states()[:6]
	for _, a := range each {
		for _, b := range each {
			for i := 1; i < len(l); i++ {
				later, _ := b.spoiled(l, i)
				if rank(a.err) < rank(b.err) {
					twice, _ := a.spoiled(later, i)
					check(t, twice, a.err, i)
				}
				for j := range i {
					if both, can := a.spoiled(later, j); can {
						check(t, both, a.err, j)
					}
				}
			}
		}
	}
}

// TestCheckSeveral: P16.1, written out: validators that break several rules, of which one after the other is mended.
func TestCheckSeveral(t *testing.T) {
	first := one(5, 1, idle, 0, clean)
	check(t, list(first, one(-1, 0, 0, -1, atts)), api.ErrRange, 1)
	check(t, list(first, one(5, 0, 0, -1, atts)), api.ErrRange, 1)
	check(t, list(first, one(5, 0, idle, -1, atts)), api.ErrRange, 1)
	check(t, list(first, one(5, 0, idle, 0, atts)), api.ErrArg, 1)
	check(t, list(first, one(5, 1, idle, 0, atts)), api.ErrDouble, 1)
	check(t, list(first, one(6, 1, idle, 0, atts)), api.ErrState, 1)
	check(t, list(first, one(6, 1, tomb, 0, atts)), api.ErrState, 1)
	check(t, list(first, one(6, 1, tomb, 1, atts)), api.OK, 0)
	check(t, list(one(5, 0, idle, 0, atts), one(5, 1, 9, 0, clean)), api.ErrArg, 0)
	check(t, list(one(5, 1, idle, 0, atts), one(5, 0, 9, 0, clean)), api.ErrState, 0)
	check(t, list(first, first, one(64, 0, 9, -1, both)), api.ErrDouble, 1)
}

// TestCheckDouble: P16.1: an Operator that any validator before has; the later one of the two is told, of several the first one.
func TestCheckDouble(t *testing.T) {
	for _, l := range [][]api.Validator{states(), full(32)} {
		for i := range l {
			for j := range i {
				check(t, with(l, i, func(x *api.Validator) { x.Operator = l[j].Operator }), api.ErrDouble, i)
				check(t, with(l, j, func(x *api.Validator) { x.Operator = l[i].Operator }), api.ErrDouble, i)
			}
		}
	}
	a, b := one(5, 1, idle, 0, clean), one(6, 1, idle, 0, clean)
	check(t, list(a, b, b, a), api.ErrDouble, 2)
	check(t, list(a, b, a, b, a), api.ErrDouble, 2)
	check(t, list(a, a, a), api.ErrDouble, 1)
}

// TestCheckLong: P16.1: 32 validators and one more, ahead of all that is wrong with validators.
func TestCheckLong(t *testing.T) {
	check(t, full(32), api.OK, 0)
	for _, n := range []int{33, 34, 64} {
		check(t, full(n), api.ErrLong, 32)
	}
	check(t, make([]api.Validator, 33), api.ErrLong, 32)
	check(t, make([]api.Validator, 5000), api.ErrLong, 32)
	check(t, make([]api.Validator, 32), api.ErrRange, 0)
	check(t, make([]api.Validator, 1), api.ErrRange, 0)
	for _, i := range []int{0, 1, 16, 30, 31} {
		check(t, with(full(32), i, func(x *api.Validator) { x.MinSelf = 0 }), api.ErrArg, i)
		check(t, with(full(33), i, func(x *api.Validator) { x.MinSelf = 0 }), api.ErrLong, 32)
	}
	check(t, with(full(33), 32, func(x *api.Validator) { x.Status = 0 }), api.ErrLong, 32)
}

// invalids are lists that are no rosters, of each error.
func invalids() (l [][]api.Validator) {
	for i, s := range spoilers() {
		if spoiled, can := s.spoiled(states(), 1+i%9); can {
			l = append(l, spoiled)
		}
		if spoiled, can := s.spoiled(begun(), i%2); can {
			l = append(l, spoiled)
		}
	}
	return append(l, make([]api.Validator, 3), list(api.Validator{}), full(33), make([]api.Validator, 40), append(begun(), begun()...))
}

// TestInvalid: P16.2 to P16.6: each call returns the error of Check first, whatever its other arguments are, and nothing else; Find, Refuse, Free and Active tell what there is.
func TestInvalid(t *testing.T) {
	found := map[api.Errno]bool{}
	for _, l := range invalids() {
		err, _ := roster.Check(l)
		found[err] = true
		if err == api.OK {
			t.Errorf("%s is a roster", brief(l))
		}
		for _, c := range append(calls(), choose(make([]bool, len(l))...)) {
			if c.any {
				c.holds(t, l)
			} else {
				c.is(t, l, refused(err))
			}
		}
	}
	for _, err := range []api.Errno{api.ErrLong, api.ErrRange, api.ErrArg, api.ErrDouble, api.ErrState} {
		if !found[err] {
			t.Errorf("none with %v", err)
		}
	}
}

// TestCalls: P16.2 to P16.6: each call on rosters at their bounds, by the chapter's words.
func TestCalls(t *testing.T) {
	for _, l := range valids() {
		for _, c := range calls() {
			c.holds(t, l)
		}
	}
}

// TestCallsDrawn: P16.1 to P16.6: each call on drawn rosters, some of them spoilt, by the chapter's words.
func TestCallsDrawn(t *testing.T) {
	r := source(2)
	each := spoilers()
	for range 1000 {
		l := drawn(r)
		for range r.IntN(3) {
			if len(l) > 0 {
				l = with(l, r.IntN(len(l)), func(x *api.Validator) { each[r.IntN(len(each))].spoil(x, r.IntN(64)) })
			}
		}
		err, at := checked(l)
		check(t, l, err, at)
		for _, c := range calls() {
			c.holds(t, l)
		}
	}
}
