package seal

import (
	"iter"
	"slices"

	"distraint/api"
)

// Join tells the table of what is in a or in b.
func Join(a, b []api.Seal) ([]api.Seal, api.Errno) {
	if err, _ := Check(a); err != api.OK {
		return nil, err
	}
	if err, _ := Check(b); err != api.OK {
		return nil, err
	}
	var all []api.Seal
	for x := range merge(a, b) {
		if len(all) == api.MaxSeals {
			return nil, api.ErrLong
		}
		all = append(all, x)
	}
	return all, api.OK
}

// source is what is left of a table: its first seal, if there is one, and what fetches those behind it.
type source struct {
	next  func() (api.Seal, bool)
	first api.Seal
	more  bool
}

func (s *source) move() { s.first, s.more = s.next() }

// compare tells which source has the lesser seal: one that is at its end has none that is less.
func (s *source) compare(t *source) int {
	if !t.more {
		return -1
	}
	if !s.more {
		return 1
	}
	return Compare(s.first, t.first)
}

// merge visits what is in either table in the order of seals, and what is in both only once.
func merge(a, b []api.Seal) iter.Seq[api.Seal] {
	return func(yield func(api.Seal) bool) {
		nextA, stopA := iter.Pull(slices.Values(a))
		defer stopA()
		nextB, stopB := iter.Pull(slices.Values(b))
		defer stopB()
		s, t := &source{next: nextA}, &source{next: nextB}
		s.move()
		t.move()
		for s.more || t.more {
			order := s.compare(t)
			least := s.first
			if order > 0 {
				least = t.first
			}
			if !yield(least) {
				return
			}
			if order <= 0 {
				s.move()
			}
			if order >= 0 {
				t.move()
			}
		}
	}
}
