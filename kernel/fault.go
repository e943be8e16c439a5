package kernel

import (
	"errors"
	"strconv"

	"telamon/api"
)

// refusal is why a term is refused.
type refusal struct{ why api.Errno }

func (r refusal) Error() string { return "error " + strconv.Itoa(int(r.why)) }

// within is an error on its way out: it stands in a part of that form.
type within struct {
	form int
	err  error
}

func (w within) Error() string { return "in form " + strconv.Itoa(w.form) + ": " + w.err.Error() }

func (w within) Unwrap() error { return w.err }

// refused answers the error that tells why: none, if there is nothing to tell.
func refused(why api.Errno) error {
	if why == api.OK {
		return nil
	}
	return refusal{why}
}

// reason answers what an error tells, whatever it is wrapped in. One that tells nothing is not known; it must not let a term in.
func reason(err error) api.Errno {
	if err == nil {
		return api.OK
	}
	r := refusal{api.ErrForm}
	errors.As(err, &r)
	return r.why
}
