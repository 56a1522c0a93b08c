package stamp

import (
	"math"

	"distraint/api"
)

// heights are those from the first to the last one, both included; the zero ones are none, not the 0.
type heights struct{ first, last int }

func (r heights) has(h int) bool {
	if r == (heights{}) {
		return false
	}
	return r.first <= h && h <= r.last
}

// Backed reports whether a lot of s that was undelegated at until, or never if that is below 1, backed v at h.
func Backed(s api.Stamp, v, h, until int) bool {
	return Check(s) == api.OK && backing(s, v, until).has(h)
}

// backing tells when a lot of s, which is valid, backed v.
func backing(s api.Stamp, v, until int) heights {
	switch {
	case v == s.Validator && until < 1:
		return heights{s.Since, math.MaxInt}
	case v == s.Validator:
		return heights{s.Since, until}
	case v == s.Prior && v != nobody:
		return heights{s.From, s.Since}
	}
	return heights{}
}
