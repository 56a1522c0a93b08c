package hop_test

import "distraint/api"

// wrong tells whether the chapter's words allow a hop.
func wrong(x api.Hop) bool {
	if x.Owner < 0 || x.Owner > 63 {
		return true
	}
	if x.Src < 0 || x.Src > 31 || x.Dst < 0 || x.Dst > 31 {
		return true
	}
	return x.Src == x.Dst || x.Created < 1 || x.Created > 4294967296
}

// checked tells what the chapter's words say of a list.
func checked(l []api.Hop) (api.Errno, int) {
	if len(l) > 4096 {
		return api.ErrLong, 4096
	}
	for i, x := range l {
		if wrong(x) {
			return api.ErrRange, i
		}
		if i > 0 && l[i-1].Created > x.Created {
			return api.ErrOrder, i
		}
	}
	return api.OK, 0
}

func wantCount(l []api.Hop, owner, src, dst int) (want told) {
	for _, x := range l {
		if x.Owner == owner && x.Src == src && x.Dst == dst {
			want.n++
		}
	}
	return want
}

func wantInto(l []api.Hop, owner, dst int) (want told) {
	for _, x := range l {
		if x.Owner == owner && x.Dst == dst {
			want.hops = append(want.hops, x)
		}
	}
	return want
}

func wantAdd(l []api.Hop, x api.Hop, limit int) told {
	if wrong(x) || limit < 1 || limit > 16 {
		return refused(api.ErrRange)
	}
	if x.Created < newest(l) {
		return refused(api.ErrOrder)
	}
	if wantCount(l, x.Owner, x.Src, x.Dst).n >= limit {
		return refused(api.ErrCap)
	}
	if len(l) >= 4096 {
		return refused(api.ErrLong)
	}
	var after []api.Hop
	return told{hops: append(append(after, l...), x)}
}

func wantRipe(l []api.Hop, h, unbonding int) (want told) {
	if h < 1 || h > 4294967296 || unbonding < 1 || unbonding > 1048576 {
		return refused(api.ErrRange)
	}
	for _, x := range l {
		if x.Created+unbonding <= h {
			want.ripe = append(want.ripe, x)
		} else {
			want.hops = append(want.hops, x)
		}
	}
	return want
}

// wantNext is asked of any list, as the call has no error to tell.
func wantNext(l []api.Hop, unbonding int) told {
	if err, _ := checked(l); err != api.OK || len(l) == 0 || unbonding < 1 || unbonding > 1048576 {
		return told{}
	}
	return told{n: l[0].Created + unbonding, is: true}
}
