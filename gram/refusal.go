package gram

import (
	"errors"
	"strconv"

	"telamon/api"
)

// refusal is why a parser can't go on, and at which place.
type refusal struct {
	at int
	e  api.Errno
}

func (r refusal) Error() string {
	return "error " + strconv.Itoa(int(r.e)) + " at " + strconv.Itoa(r.at)
}

// fail leaves all rules at once, out to answered: the token that comes next is at fault.
func (p *parser) fail(e api.Errno) {
	var err error = refusal{p.here().At, e}
	panic(err)
}

// reason is what a parser gave up for. No panic but that of fail is known; another one must not let a file in.
func reason(why any) refusal {
	r := refusal{e: api.ErrToken}
	if err, ok := why.(error); ok {
		errors.As(err, &r)
	}
	return r
}
