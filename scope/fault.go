package scope

import (
	"errors"
	"strconv"

	"telamon/api"
)

// refusal is an error of which its number says all.
type refusal struct{ why api.Errno }

func (r refusal) Error() string { return "error " + strconv.Itoa(int(r.why)) }

// twofold is the error of a name that means two things: what it means.
type twofold struct{ meaning }

func (t twofold) Error() string { return t.name + " or another one" }

// fault is an error with its place.
type fault struct {
	at  int
	err error
}

func (f fault) Error() string { return f.err.Error() + " at " + strconv.Itoa(f.at) }

func (f fault) Unwrap() error { return f.err }

func refused(at int, why api.Errno) error { return fault{at, refusal{why}} }

// told is the place and the number of an error. One that tells no number must not let a file in.
func told(err error) (int, api.Errno) {
	var f fault
	errors.As(err, &f)
	if _, two := isTwofold(err); two {
		return f.at, api.ErrAmbiguous
	}
	r := refusal{api.ErrScope}
	errors.As(err, &r)
	return f.at, r.why
}

func isTwofold(err error) (twofold, bool) {
	var two twofold
	is := errors.As(err, &two)
	return two, is
}
