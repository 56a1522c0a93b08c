package stake

import (
	"errors"

	"distraint/api"
)

// A refusal is the error of a layer, and that layer's name.
type refusal struct {
	layer string
	err   api.Errno
}

func (r refusal) Error() string { return r.layer + ": " + r.err.Error() }
func (r refusal) Unwrap() error { return r.err }

// wrap tells what a layer told as a refusal, or nil if that is OK.
func wrap(layer string, err api.Errno) error {
	if err == api.OK {
		return nil
	}
	return refusal{layer, err}
}

// refuse tells an error of this layer's own if something is wrong.
func refuse(wrong bool, err api.Errno) error {
	if !wrong {
		return nil
	}
	return wrap("stake", err)
}

// number tells the number of the error that a refusal wraps, or OK if there is no refusal.
func number(err error) api.Errno {
	var n api.Errno
	if errors.As(err, &n) {
		return n
	}
	return api.OK
}

// told tells a result, or the number of the error that there is instead of it.
func told[T any](result T, err error) (T, api.Errno) {
	if err != nil {
		var none T
		return none, number(err)
	}
	return result, api.OK
}

// A step does a part of an operation, or tells why that may not be done.
type step func() error

// run calls steps, one after the other, until one fails.
func run(steps []step) error {
	for _, s := range steps {
		if err := s(); err != nil {
			return err
		}
	}
	return nil
}
