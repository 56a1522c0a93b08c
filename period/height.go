package period

import "distraint/api"

// height is the number of a block.
type height int

// check tells whether h is out of range, or OK.
func (h height) check() api.Errno { return within(int(h), 1, api.MaxHeight) }

// epoch tells the epoch of h.
func (h height) epoch(v checked) int { return (int(h) - 1) / v.EpochLen }

// since tells how many blocks h is after c: a negative number if c is the later one.
func (h height) since(c int) int { return int(h) - c }

// ends tells the first and the last height of an epoch.
func ends(p api.Params, e int) (first, last height, err api.Errno) {
	v, err := check(p, within(e, 0, api.MaxEpoch))
	if err != api.OK {
		return 0, 0, err
	}
	first = height(e*v.EpochLen + 1)
	if err = first.check(); err != api.OK {
		return 0, 0, err
	}
	return first, min(height((e+1)*v.EpochLen), api.MaxHeight), api.OK
}

// within tells whether n is out of bounds, or OK.
func within(n, least, most int) api.Errno {
	if n < least || n > most {
		return api.ErrRange
	}
	return api.OK
}
