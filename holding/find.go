package holding

import (
	"cmp"
	"iter"

	"distraint/api"
	"distraint/stamp"
)

// An order tells -1, 0 or 1 where one of two is less than, equal to, or greater than the other.
type order[T any] func(one, other T) int

// byStamp is the order of classes.
func byStamp(a, b api.Class) int { return stamp.Compare(a.Stamp, b.Stamp) }

// byOwner is the order of positions.
func byOwner(a, b api.Position) int {
	return cmp.Or(cmp.Compare(a.Owner, b.Owner), stamp.Compare(a.Stamp, b.Stamp))
}

// find tells where x is in a list that is in order, or would be, and whether it is.
func find[T any](l []T, x T, compare order[T]) (int, bool) {
	from, to := 0, len(l)
	for from < to {
		middle := from + (to-from)/2
		if compare(l[middle], x) < 0 {
			from = middle + 1
		} else {
			to = middle
		}
	}
	return from, from < len(l) && compare(l[from], x) == 0
}

// follows tells whether x is greater than the last one of a list.
func follows[T any](l []T, x T, compare order[T]) bool {
	return len(l) == 0 || compare(l[len(l)-1], x) < 0
}

// those tells the ones of a list that are wanted.
func those[T any](l []T, wanted func(T) bool) (found []T) {
	for _, x := range l {
		if wanted(x) {
			found = append(found, x)
		}
	}
	return found
}

// held yields each position with the pool that it has a part in, which is h's own; or with nil, if there is no class with its stamp. The classes are in order.
func held(h api.Holding) iter.Seq2[api.Position, *api.Pool] {
	return func(yield func(api.Position, *api.Pool) bool) {
		for _, p := range h.Positions {
			var pool *api.Pool
			if at, in := find(h.Classes, api.Class{Stamp: p.Stamp}, byStamp); in {
				pool = &h.Classes[at].Pool
			}
			if !yield(p, pool) {
				return
			}
		}
	}
}

// poolOf tells the pool of the class of s, or the empty one, which no class has, if there is none. The holding is valid.
func poolOf(h api.Holding, s api.Stamp) api.Pool {
	at, in := find(h.Classes, api.Class{Stamp: s}, byStamp)
	if !in {
		return api.Pool{}
	}
	return h.Classes[at].Pool
}

// sharesOf tells how many shares an owner has in the class of s: 0, which no position has, if it has no position there. The holding is valid.
func sharesOf(h api.Holding, owner int, s api.Stamp) uint64 {
	at, in := find(h.Positions, api.Position{Owner: owner, Stamp: s}, byOwner)
	if !in {
		return 0
	}
	return h.Positions[at].Shares
}
