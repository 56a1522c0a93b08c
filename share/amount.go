package share

import (
	"distraint/api"
	"distraint/fixnum"
)

// What a pool has are two kinds of amounts, which are types of their own so that neither is taken for the other.
type (
	tokens uint64
	shares uint64
)

type amount interface{ tokens | shares }

// exchange tells what n of one kind comes to in the other, rounded down, where so many of the one are worth so many of the other.
func exchange[A, B amount](n, of A, worth B) (B, api.Errno) {
	result, err := fixnum.MulDiv(uint64(n), uint64(worth), uint64(of))
	return B(result), err
}

// A condition tells an error where it does not hold, and OK where it does.
type condition func() api.Errno

// first tells the first error of some conditions, or OK; those behind it are not asked.
func first(conditions ...condition) api.Errno {
	for _, c := range conditions {
		if err := c(); err != api.OK {
			return err
		}
	}
	return api.OK
}

// unless is the condition that something is not so, or else there is this error.
func unless(wrong bool, err api.Errno) condition {
	return func() api.Errno {
		if wrong {
			return err
		}
		return api.OK
	}
}

// told is the condition of which it is known already what it tells.
func told(err api.Errno) condition {
	return func() api.Errno { return err }
}

// room is the condition that n can be added to what there is without exceeding most.
func room[A amount](has, n, most A) condition {
	return func() api.Errno {
		sum, err := fixnum.Add(uint64(has), uint64(n))
		if err != api.OK || A(sum) > most {
			return api.ErrOver
		}
		return api.OK
	}
}
