package scope

import "telamon/api"

const (
	expBytes = 96                     // what an expression takes of memory at the least
	mostExps = (1<<31 - 1) / expBytes // more of them are beyond the bound of 2^31 - 1 bytes
)

// size is how many expressions have been made.
type size struct{ exps int }

// weigh refuses so many expressions more, if they bring the answer beyond the bound. (A module's parameters stand in each of its declarations, and behind each of its names.)
func (s *size) weigh(at, more int) error {
	if s.exps += more; s.exps > mostExps {
		return refused(at, api.ErrLong)
	}
	return nil
}
