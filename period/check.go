package period

import (
	"distraint/api"
	"distraint/params"
)

// checked are params that are valid: only check makes them.
type checked struct{ api.Params }

// check tells p as checked params if p is valid and all that comes with it is; otherwise the first error, that of p ahead of the others.
func check(p api.Params, with ...api.Errno) (checked, api.Errno) {
	bad, _ := params.Check(p)
	if err := firstOf(bad, firstOf(with...)); err != api.OK {
		return checked{}, err
	}
	return checked{p}, api.OK
}

// firstOf tells the first error of a list, or OK.
func firstOf(errs ...api.Errno) api.Errno {
	for _, err := range errs {
		if err != api.OK {
			return err
		}
	}
	return api.OK
}
