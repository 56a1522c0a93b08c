package roster_test

import (
	"fmt"
	"math/rand/v2"
	"testing"

	"distraint/api"
	"distraint/roster"
)

// step is one call of a walk: what changes the roster, and what of it the rules of P16.7 ask for.
type step struct {
	call
	kind     string
	v, by, h int
	class    int
}

// drawnStep draws a call with arguments around those that the roster l allows, at a height.
func drawnStep(r *rand.Rand, l []api.Validator, h int) step {
	v := r.IntN(len(l)+2) - 1
	if r.IntN(4) > 0 && len(l) > 0 {
		v = r.IntN(len(l))
	}
	until := h + r.IntN(12) - 3
	switch r.IntN(12) {
	case 0, 1:
		return step{call: create(r.IntN(66)-1, uint64(r.IntN(5))), kind: "create"}
	case 2, 3, 4:
		return step{call: choose(chosen(r, l)...), kind: "choose"}
	case 5:
		return step{call: jail(v, until), kind: "jail", v: v}
	case 6:
		class := []int{0, 1, 2, 2, 2, 2, 2, 3}[r.IntN(8)]
		return step{call: punish(v, class, until), kind: "punish", v: v, class: class}
	}
	by := r.IntN(65)
	if v >= 0 && v < len(l) && r.IntN(4) > 0 {
		by = l[v].Operator
	}
	at := h + r.IntN(5) - 2
	return step{call: unjail(v, by, at), kind: "unjail", v: v, by: by, h: at}
}

// chosen draws a choice, mostly one of the free validators alone.
func chosen(r *rand.Rand, l []api.Validator) (on []bool) {
	for _, x := range l {
		on = append(on, r.IntN(2) == 0 && (isFree(x) || r.IntN(60) == 0))
	}
	if r.IntN(20) == 0 {
		return append(on, false)
	}
	return on
}

// follows: what P16.7 says of one validator before and after a step.
func (s step) follows(v int, x, y api.Validator) error {
	asked := s.kind != "create" && s.kind != "choose" && s.v == v
	switch {
	case x.Operator != y.Operator, x.MinSelf != y.MinSelf:
		return fmt.Errorf("another one")
	case x.Status == tomb && y != x:
		return fmt.Errorf("tombstoned, and changed")
	case y.Until < x.Until:
		return fmt.Errorf("its Until decreases")
	case x.Attest && !y.Attest, x.Propose && !y.Propose:
		return fmt.Errorf("no longer punished")
	case x.Status == jailed && y.Status == active:
		return fmt.Errorf("active while it is jailed")
	case x.Status == jailed && y.Status == idle && !(asked && s.kind == "unjail" && s.by == x.Operator && s.h >= x.Until):
		return fmt.Errorf("free, but not by its operator at its Until")
	case (x.Attest != y.Attest || x.Propose != y.Propose) && !(asked && s.kind == "punish"):
		return fmt.Errorf("punished by the way")
	case !asked && s.kind != "choose" && x != y:
		return fmt.Errorf("changed by the way")
	case s.kind == "choose" && (x.Until != y.Until || !isFree(x) && x != y):
		return fmt.Errorf("changed by a choice")
	}
	return nil
}

// walk has what was done to each validator, by number.
type walk struct {
	l       []api.Validator
	times   map[[2]int]int // how often it was punished for a class
	freed   map[int]bool   // it was jailed, and an Unjail followed that
	was     map[int]bool   // it was jailed, and no Unjail followed yet
	resumed int            // how many became active again
	count   map[string]int
}

// goes: a step, what the model says of it, and what P16.7 says.
func (w *walk) goes(t *testing.T, s step) {
	t.Helper()
	s.holds(t, w.l)
	got := s.ask(w.l)
	w.count[fmt.Sprint(s.kind, " ", int(got.err))]++
	if got.err != api.OK {
		return
	}
	if s.kind == "punish" {
		if w.times[[2]int{s.v, s.class}]++; w.times[[2]int{s.v, s.class}] > 1 || w.l[s.v].Status == tomb {
			t.Fatalf("%s of %s: punished again", s.name, brief(w.l))
		}
	}
	for v, x := range w.l {
		y := got.roster[v]
		if err := s.follows(v, x, y); err != nil {
			t.Fatalf("%s of %s: validator %d is %v", s.name, brief(w.l), v, err)
		}
		w.standing(t, v, s, y)
	}
	if more := len(got.roster) - len(w.l); more != 0 && (s.kind != "create" || more != 1) {
		t.Fatalf("%s of %s: %d more", s.name, brief(w.l), more)
	}
	w.l = got.roster
	isRoster(t, w.l)
}

// standing: who was jailed at any time is active only if an Unjail followed that.
func (w *walk) standing(t *testing.T, v int, s step, y api.Validator) {
	t.Helper()
	switch {
	case y.Status == jailed:
		w.was[v] = true
	case s.kind == "unjail" && s.v == v:
		delete(w.was, v)
		w.freed[v] = true
	case y.Status == active && w.was[v]:
		t.Fatalf("%s: validator %d is active again", s.name, v)
	case y.Status == active && w.freed[v]:
		delete(w.freed, v)
		w.resumed++
	}
}

// isRoster: what was told is a roster, which is read from its encoding, and of which each status is one of the four.
func isRoster(t *testing.T, l []api.Validator) {
	t.Helper()
	if err, at := checked(l); err != api.OK {
		t.Fatalf("%s is no roster: %v at %d", brief(l), err, at)
	}
	if err, at := roster.Check(l); err != api.OK || at != 0 {
		t.Fatalf("Check(%s): %v, %d", brief(l), err, at)
	}
	read(t, encoded(l), l, api.Fault{})
	for _, x := range l {
		if roster.Name(x.Status) == "none" {
			t.Fatalf("%v has no status", x)
		}
	}
}

// TestWalks: P16.7: long drawn walks of all calls that change a roster, from the empty one on, by the chapter's words: who is tombstoned stays as it is and is never active nor punished; nobody is punished twice for a class; no Until decreases; who was jailed becomes active again only after an Unjail by its operator, at its Until or later.
func TestWalks(t *testing.T) {
	r := source(5)
	count := map[string]int{}
	resumed := 0
	for range 60 {
		w := &walk{times: map[[2]int]int{}, freed: map[int]bool{}, was: map[int]bool{}, count: count}
		for h := 1; h < 400; h++ {
			w.goes(t, drawnStep(r, w.l, h))
		}
		for v, x := range w.l {
			once := w.times[[2]int{v, api.ClassAttest}]
			if (once == 1) != x.Attest || (w.times[[2]int{v, api.ClassPropose}] == 1) != x.Propose || (once == 1) != (x.Status == tomb) {
				t.Fatalf("%v was punished %v", x, w.times)
			}
		}
		resumed += w.resumed
	}
	for kind, least := range map[string]int{
		"create 0": 500, "create 2": 50, "create 3": 20, "create 8": 50, "create 7": 50, "choose 0": 2000, "choose 2": 100, "choose 11": 100,
		"jail 0": 500, "jail 10": 50, "jail 20": 50, "punish 0": 300, "punish 2": 50, "punish 10": 50, "punish 19": 50, "punish 20": 50,
		"unjail 0": 300, "unjail 10": 50, "unjail 11": 300, "unjail 20": 100, "unjail 21": 50, "unjail 24": 300,
	} {
		if count[kind] < least {
			t.Errorf("%s: only %d", kind, count[kind])
		}
	}
	if resumed < 100 {
		t.Errorf("only %d became active again", resumed)
	}
}

// TestTombstoned: P16.7: from any roster, whatever is done, a tombstoned validator stays as it is, and each call that would change it is refused.
func TestTombstoned(t *testing.T) {
	r := source(6)
	for range 400 {
		l := drawn(r)
		for v, x := range l {
			if x.Status != tomb {
				continue
			}
			for _, c := range []call{jail(v, top), punish(v, 1, top), punish(v, 2, top), unjail(v, x.Operator, top), punished(v, 1), punished(v, 2), refuse(v)} {
				if got := c.ask(l); got.err != api.ErrTomb {
					t.Errorf("%s of %s: %v", c.name, brief(l), got)
				}
			}
			on := make([]bool, len(l))
			on[v] = true
			choose(on...).is(t, l, refused(api.ErrState))
		}
		for h := 1; h < 20; h++ {
			s := drawnStep(r, l, h)
			got := s.ask(l)
			if got.err != api.OK {
				continue
			}
			for v, x := range l {
				if err := s.follows(v, x, got.roster[v]); err != nil {
					t.Fatalf("%s of %s: validator %d is %v", s.name, brief(l), v, err)
				}
			}
			l = got.roster
		}
	}
}
