package kernel

import (
	"telamon/api"
	"telamon/level"
	"telamon/sig"
)

// What stands here is for the packages below that judge several terms with one fuel for all, in contexts that share what is ahead.

// Judge judges terms that stand within variables, one term behind the other. All terms that it is given must be such that term.Check takes them. One that has told an error is not to be asked again.
type Judge struct {
	*judge
	context
}

// NewJudge answers a Judge of terms without free variables, that has that fuel.
func NewJudge(s *sig.Sig, levels, fuel int) Judge {
	return Judge{judge: newJudge(s, levels, fuel)}
}

// With answers a Judge of what stands within one variable more, of the type ty; it shares the fuel.
func (j Judge) With(ty api.Term) Judge { return Judge{j.judge, j.open(ty)} }

// Left answers the fuel that is left.
func (j Judge) Left() int { return j.machine.Left() }

// Infer answers the type of t.
func (j Judge) Infer(t api.Term) (api.Term, api.Errno) {
	ty, err := j.of(t).infer()
	if err != nil {
		return api.Term{}, reason(err)
	}
	return ty.Written(j.Deep()), api.OK
}

// Check tells whether t has the type ty.
func (j Judge) Check(t, ty api.Term) api.Errno { return reason(j.of(t).check(j.Cell(ty))) }

// Sort answers the level of the universe in which t is.
func (j Judge) Sort(t api.Term) (api.Level, api.Errno) {
	l, err := j.of(t).sort()
	if err != nil {
		return api.Level{}, reason(err)
	}
	return level.Norm(l) // as new memory
}

func (j Judge) of(t api.Term) subject { return subject{j.judge, j.context, j.Cell(t)} }
