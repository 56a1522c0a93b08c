package queue_test

import (
	"math/big"

	"distraint/api"
	"distraint/stamp"
)

func whole(n uint64) *big.Int { return new(big.Int).SetUint64(n) }

// sumOf tells the sum of the Balances, however much that is.
func sumOf(l []api.Entry) *big.Int {
	sum := new(big.Int)
	for _, x := range l {
		sum.Add(sum, whole(x.Balance))
	}
	return sum
}

func tooMuch(l []api.Entry) bool { return sumOf(l).Cmp(whole(4611686018427387904)) > 0 }

// wrong tells what the chapter's words say of an entry, behind one that was created at before.
func wrong(x api.Entry, before int) api.Errno {
	if x.Owner < 0 || x.Owner > 63 {
		return api.ErrRange
	}
	if stamp.Check(x.Stamp) != api.OK {
		return api.ErrRange
	}
	if x.Created < 1 || x.Created > 4294967296 {
		return api.ErrRange
	}
	if x.Created < x.Stamp.Since || x.Created < before {
		return api.ErrOrder
	}
	if x.Initial < 1 {
		return api.ErrDust
	}
	if x.Initial < x.Balance {
		return api.ErrState
	}
	return api.OK
}

// newest tells at which height the last entry was created, or 1 if there is none: no height is ahead of that.
func newest(l []api.Entry) int {
	if len(l) == 0 {
		return 1
	}
	return l[len(l)-1].Created
}

// checked tells what the chapter's words say of a list.
func checked(l []api.Entry) (api.Errno, int) {
	if len(l) > 32768 {
		return api.ErrLong, 32768
	}
	for i, x := range l {
		if err := wrong(x, newest(l[:i])); err != api.OK {
			return err, i
		}
	}
	if tooMuch(l) {
		return api.ErrOver, 0
	}
	return api.OK, 0
}

func wantAdd(l []api.Entry, x api.Entry, limit int) told {
	if limit < 1 || limit > 16 {
		return refused(api.ErrRange)
	}
	if err := wrong(x, newest(l)); err != api.OK {
		return refused(err)
	}
	if x.Balance < x.Initial {
		return refused(api.ErrState)
	}
	if wantLive(l, x.Owner, x.Stamp.Validator).n >= uint64(limit) {
		return refused(api.ErrCap)
	}
	if len(l) >= 32768 {
		return refused(api.ErrFull)
	}
	var after []api.Entry
	after = append(append(after, l...), x)
	if tooMuch(after) {
		return refused(api.ErrOver)
	}
	return told{queue: after}
}

func wantRipe(l []api.Entry, h, unbonding int) (want told) {
	if h < 1 || h > 4294967296 || unbonding < 1 || unbonding > 1048576 {
		return refused(api.ErrRange)
	}
	for _, x := range l {
		if h-x.Created >= unbonding {
			want.ripe = append(want.ripe, x)
		} else {
			want.queue = append(want.queue, x)
		}
	}
	return want
}

func wantCut(l []api.Entry, v, h int, ppb uint64) (want told) {
	if v < 0 || v > 31 || h < 1 || h > 4294967296 || ppb > 1000000000 {
		return refused(api.ErrRange)
	}
	sum := new(big.Int)
	for i, x := range l {
		if stamp.Backed(x.Stamp, v, h, x.Created) {
			part := new(big.Int).Mul(whole(x.Balance), whole(ppb))
			part.Div(part, whole(1000000000))
			want.shaves = append(want.shaves, shave(i, part.Uint64()))
			sum.Add(sum, part)
			x.Balance -= part.Uint64()
		}
		want.queue = append(want.queue, x)
	}
	want.n = sum.Uint64()
	return want
}

func wantLive(l []api.Entry, owner, v int) (want told) {
	for _, x := range l {
		if x.Owner == owner && x.Stamp.Validator == v {
			want.n++
		}
	}
	return want
}

func wantOf(l []api.Entry, owner int) (want told) {
	for _, x := range l {
		if x.Owner == owner {
			want.queue = append(want.queue, x)
		}
	}
	return want
}

func wantBytes(l []api.Entry) told {
	b := encoded(l)
	if len(b) > 1048576 {
		return refused(api.ErrLong)
	}
	return told{bytes: b}
}
