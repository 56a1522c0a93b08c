package hop

import "distraint/api"

func isAccount(n int) bool   { return n >= 0 && n < api.MaxAccounts }
func isValidator(n int) bool { return n >= 0 && n < api.MaxValidators }
func isHeight(n int) bool    { return n >= 1 && n <= api.MaxHeight }
func isPeriod(n int) bool    { return n >= 1 && n <= api.MaxPeriod }

// Check tells why a list is none of hops, and with which hop; or OK.
func Check(l []api.Hop) (err api.Errno, at int) {
	if len(l) > api.MaxHops {
		return api.ErrLong, api.MaxHops
	}
	before := 0
hops:
	for i, x := range l {
		switch {
		case !isAccount(x.Owner), !isValidator(x.Src), !isValidator(x.Dst), x.Src == x.Dst, !isHeight(x.Created):
			err, at = api.ErrRange, i
			break hops
		case x.Created < before:
			err, at = api.ErrOrder, i
			break hops
		}
		before = x.Created
	}
	return err, at
}

// isHop tells whether x is valid: it is if a list of it alone is.
func isHop(x api.Hop) bool {
	err, _ := Check([]api.Hop{x})
	return err == api.OK
}
