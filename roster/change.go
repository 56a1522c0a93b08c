package roster

import (
	"slices"

	"distraint/api"
)

// Create tells the roster with an operator's validator behind it, and its number.
func Create(l []api.Validator, operator int, minSelf uint64) ([]api.Validator, int, api.Errno) {
	if err, _ := Check(l); err != api.OK {
		return nil, 0, err
	}
	_, has := Find(l, operator)
	switch {
	case !isAccount(operator):
		return nil, 0, api.ErrRange
	case minSelf == 0:
		return nil, 0, api.ErrArg
	case has:
		return nil, 0, api.ErrDouble
	case len(l) == api.MaxValidators:
		return nil, 0, api.ErrFull
	}
	x := api.Validator{Operator: operator, MinSelf: minSelf, Status: api.StatusIdle}
	// Without spare capacity there is no room for x but in new memory.
	return append(l[:len(l):len(l)], x), len(l), api.OK
}

// Choose tells the roster in which those of the free validators are active that are to be.
func Choose(l []api.Validator, active []bool) ([]api.Validator, api.Errno) {
	if err, _ := Check(l); err != api.OK {
		return nil, err
	}
	if len(active) != len(l) {
		return nil, api.ErrArg
	}
	l = slices.Clone(l)
	for i, free := range Free(l) {
		switch {
		case active[i] && !free:
			return nil, api.ErrState
		case active[i]:
			l[i].Status = api.StatusActive
		case free:
			l[i].Status = api.StatusIdle
		}
	}
	return l, api.OK
}

// changed tells the roster in which validator v is changed, unless there is none, or the change tells why it may not be.
func changed(l []api.Validator, v int, change func(x *api.Validator) api.Errno) ([]api.Validator, api.Errno) {
	if err, _ := Check(l); err != api.OK {
		return nil, err
	}
	if v < 0 || v >= len(l) {
		return nil, api.ErrUnknown
	}
	l = slices.Clone(l)
	if err := change(&l[v]); err != api.OK {
		return nil, err
	}
	return l, api.OK
}

// hold gives a validator a status until a height, or until a later one that it has already.
func hold(x *api.Validator, status, until int) api.Errno {
	if !isUntil(until) {
		return api.ErrRange
	}
	x.Status, x.Until = status, max(x.Until, until)
	return api.OK
}

// Jail tells the roster in which v is jailed.
func Jail(l []api.Validator, v, until int) ([]api.Validator, api.Errno) {
	return changed(l, v, func(x *api.Validator) api.Errno {
		if !permits(x.Status).change {
			return api.ErrTomb
		}
		return hold(x, api.StatusJailed, until)
	})
}

// Unjail tells the roster in which v is jailed no more, if its operator asks for it when it may.
func Unjail(l []api.Validator, v, by, h int) ([]api.Validator, api.Errno) {
	return changed(l, v, func(x *api.Validator) api.Errno {
		may := permits(x.Status)
		switch {
		case by != x.Operator:
			return api.ErrAuth
		case !may.change:
			return api.ErrTomb
		case may.choice:
			return api.ErrState
		case h < x.Until:
			return api.ErrJailed
		}
		x.Status = api.StatusIdle
		return api.OK
	})
}

// Punished tells why v may not be punished for a class, or OK.
func Punished(l []api.Validator, v, class int) api.Errno {
	if err, _ := Check(l); err != api.OK {
		return err
	}
	if !isClass(class) {
		return api.ErrArg
	}
	if err := Refuse(l, v); err != api.OK {
		return err
	}
	// Who was punished for attestations is tombstoned, and so refused already.
	if class == api.ClassPropose && l[v].Propose {
		return api.ErrPunished
	}
	return api.OK
}

// Punish tells the roster in which v was punished for a class.
func Punish(l []api.Validator, v, class, until int) ([]api.Validator, api.Errno) {
	if err := Punished(l, v, class); err != api.OK {
		return nil, err
	}
	return changed(l, v, func(x *api.Validator) api.Errno {
		if class == api.ClassAttest {
			x.Attest = true
			return hold(x, api.StatusTomb, until)
		}
		x.Propose = true
		return hold(x, api.StatusJailed, until)
	})
}
