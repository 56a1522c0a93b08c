package roster_test

import "distraint/api"

// wrong tells what the chapter's words say of validator i of a list, by itself and by those before it.
func wrong(l []api.Validator, i int) api.Errno {
	x := l[i]
	if x.Operator < 0 || x.Operator > 63 || x.Status < 1 || x.Status > 4 || x.Until < 0 || x.Until > 4296015872 {
		return api.ErrRange
	}
	if x.MinSelf < 1 {
		return api.ErrArg
	}
	for _, y := range l[:i] {
		if x.Operator == y.Operator {
			return api.ErrDouble
		}
	}
	if x.Status == 4 && !x.Attest || x.Status != 4 && x.Attest {
		return api.ErrState
	}
	if x.Until == 0 && x.Status == 3 || x.Until == 0 && x.Attest || x.Until == 0 && x.Propose {
		return api.ErrState
	}
	return api.OK
}

// checked tells what the chapter's words say of a list.
func checked(l []api.Validator) (api.Errno, int) {
	if len(l) > 32 {
		return api.ErrLong, 32
	}
	for i := range l {
		if err := wrong(l, i); err != api.OK {
			return err, i
		}
	}
	return api.OK, 0
}

func wantCreate(l []api.Validator, operator int, minSelf uint64) told {
	switch {
	case operator < 0 || operator > 63:
		return refused(api.ErrRange)
	case minSelf < 1:
		return refused(api.ErrArg)
	case wantFind(l, operator).is:
		return refused(api.ErrDouble)
	case len(l) >= 32:
		return refused(api.ErrFull)
	}
	var after []api.Validator
	x := api.Validator{Operator: operator, MinSelf: minSelf, Status: 1}
	return told{roster: append(append(after, l...), x), n: len(l)}
}

func wantFind(l []api.Validator, operator int) told {
	for i, x := range l {
		if x.Operator == operator {
			return told{n: i, is: true}
		}
	}
	return told{}
}

func wantRefuse(l []api.Validator, v int) told {
	switch {
	case v < 0 || v >= len(l):
		return refused(api.ErrUnknown)
	case l[v].Status == 4:
		return refused(api.ErrTomb)
	}
	return told{}
}

func isFree(x api.Validator) bool { return x.Status == 1 || x.Status == 2 }

func wantFree(l []api.Validator) (want told) {
	for _, x := range l {
		want.each = append(want.each, isFree(x))
	}
	return want
}

func wantActive(l []api.Validator) (want told) {
	for _, x := range l {
		want.each = append(want.each, x.Status == 2)
	}
	return want
}

func wantChoose(l []api.Validator, on []bool) (want told) {
	if len(on) != len(l) {
		return refused(api.ErrArg)
	}
	for i, x := range l {
		if on[i] && !isFree(x) {
			return refused(api.ErrState)
		}
		if isFree(x) {
			x.Status = 1
		}
		if on[i] {
			x.Status = 2
		}
		want.roster = append(want.roster, x)
	}
	return want
}

func wantJail(l []api.Validator, v, until int) told {
	if no := wantRefuse(l, v); no.err != api.OK {
		return no
	}
	if until < 1 || until > 4296015872 {
		return refused(api.ErrRange)
	}
	return told{roster: with(l, v, func(x *api.Validator) {
		x.Status = 3
		if until > x.Until {
			x.Until = until
		}
	})}
}

func wantUnjail(l []api.Validator, v, by, h int) told {
	switch {
	case v < 0 || v >= len(l):
		return refused(api.ErrUnknown)
	case l[v].Operator != by:
		return refused(api.ErrAuth)
	case l[v].Status == 4:
		return refused(api.ErrTomb)
	case l[v].Status != 3:
		return refused(api.ErrState)
	case h < l[v].Until:
		return refused(api.ErrJailed)
	}
	return told{roster: with(l, v, func(x *api.Validator) { x.Status = 1 })}
}

func wantPunished(l []api.Validator, v, class int) told {
	if class != 1 && class != 2 {
		return refused(api.ErrArg)
	}
	if no := wantRefuse(l, v); no.err != api.OK {
		return no
	}
	if class == 1 && l[v].Attest || class == 2 && l[v].Propose {
		return refused(api.ErrPunished)
	}
	return told{}
}

func wantPunish(l []api.Validator, v, class, until int) told {
	if no := wantPunished(l, v, class); no.err != api.OK {
		return no
	}
	want := wantJail(l, v, until)
	if want.err != api.OK {
		return want
	}
	if class == 2 {
		want.roster[v].Propose = true
	} else {
		want.roster[v].Attest, want.roster[v].Status = true, 4
	}
	return want
}
