package roster

import "distraint/api"

func isAccount(n int) bool { return n >= 0 && n < api.MaxAccounts }
func isStatus(n int) bool  { return n >= api.StatusIdle && n <= api.StatusTomb }
func isClass(n int) bool   { return n == api.ClassAttest || n == api.ClassPropose }

// isUntil tells whether somebody may be jailed until a height.
func isUntil(n int) bool { return n >= 1 && n <= api.MaxUntil }

// Check tells why a list is no roster, and with which validator; or OK.
func Check(l []api.Validator) (api.Errno, int) {
	if len(l) > api.MaxValidators {
		return api.ErrLong, api.MaxValidators
	}
	first := operators(l)
	for i, x := range l {
		switch {
		case !isAccount(x.Operator), !isStatus(x.Status), x.Until != 0 && !isUntil(x.Until):
			return api.ErrRange, i
		case x.MinSelf == 0:
			return api.ErrArg, i
		case first[x.Operator] < i:
			return api.ErrDouble, i
		case !agrees(x):
			return api.ErrState, i
		}
	}
	return api.OK, 0
}

// agrees tells whether a validator's status, its Until and its flags may stand together.
func agrees(x api.Validator) bool {
	if (x.Status == api.StatusTomb) != x.Attest {
		return false
	}
	held := x.Status == api.StatusJailed || x.Attest || x.Propose
	return !held || x.Until != 0
}
