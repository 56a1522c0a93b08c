package params

import "distraint/api"

// maxAge is the number of the field that may not be greater than another one.
const maxAge = 1

// field is a field of one record: its name, its bounds, and what reads and writes it there.
type field struct {
	name        string
	least, most uint64
	get         func() uint64
	set         func(n uint64)
}

// fields tells the fields of p, in their order.
func fields(p *api.Params) []field {
	return []field{
		number("unbonding", 1, api.MaxPeriod, &p.Unbonding),
		number("maxage", 0, api.MaxPeriod, &p.MaxAge),
		number("epochlen", 1, api.MaxEpochLen, &p.EpochLen),
		number("window", 1, api.MaxWindow, &p.Window),
		number("entries", 1, api.MaxEntries, &p.Entries),
		number("maxactive", 1, api.MaxValidators, &p.MaxActive),
		number("jailtime", 1, api.MaxPeriod, &p.JailTime),
		number("base", 0, api.Billion, &p.Base),
		number("mult", 0, api.MaxMult, &p.Mult),
		number("corrwindow", 1, api.MaxPeriod, &p.CorrWindow),
		number("reward", 0, api.Billion, &p.Reward),
	}
}

// number tells the field at a place. An int that is negative wraps around to a number above all bounds, and back.
func number[T int | uint64](name string, least, most uint64, place *T) field {
	return field{
		name:  name,
		least: least,
		most:  most,
		get:   func() uint64 { return uint64(*place) },
		set:   func(n uint64) { *place = T(n) },
	}
}

// admits tells whether n is within the bounds.
func (f field) admits(n uint64) bool { return n >= f.least && n <= f.most }

// ordered tells whether MaxAge is no greater than Unbonding. It may be asked behind each field that is read: as both are 0 at first, and Unbonding is read first, MaxAge is the one that breaks it.
func ordered(p api.Params) bool { return p.MaxAge <= p.Unbonding }
