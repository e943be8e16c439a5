package kernel

import (
	"telamon/api"
	"telamon/bytes"
	"telamon/conv"
	"telamon/level"
	"telamon/reduce"
	"telamon/sig"
)

// judge is what all parts of a term share. All of a call is asked of one machine: so one fuel counts all steps, and what was found once is not looked for again.
type judge struct {
	sig       *sig.Sig
	levels    int
	machine   reduce.Machine
	asker     *conv.Asker
	constants map[string]reduce.Cell // their types, by their bytes
	rules     [api.TMeta + 1]rule    // by form
}

// subject is a term that is judged, in its context.
type subject struct {
	*judge
	context
	term reduce.Cell
}

func newJudge(s *sig.Sig, levels, fuel int) *judge {
	m := reduce.NewMachine(s, fuel)
	return &judge{s, levels, m, conv.NewAsker(m), map[string]reduce.Cell{}, rules()}
}

// kid answers the kid of that place; one that is bound must be asked for by body.
func (x subject) kid(i int) subject {
	return subject{x.judge, x.context, x.term.Part(i, x.Deep())}
}

// body answers the kid that is bound, of a form whose first kid is the type of its variable.
func (x subject) body() subject {
	return subject{x.judge, x.bind(x.kid(0).term), x.term.Part(1, x.Deep())}
}

// infer answers the type of x, by its form.
func (x subject) infer() (reduce.Cell, error) {
	form := x.term.Stands().Form
	ty, err := x.rules[form](x)
	if err == nil {
		err = x.limit(ty)
	}
	if err != nil {
		return reduce.Cell{}, within{form, err}
	}
	return ty, nil
}

// sort answers the level of the universe in which x is.
func (x subject) sort() (api.Level, error) {
	v, err := x.inferred(api.TSort, api.ErrSort)
	if err != nil {
		return api.Level{}, err
	}
	return v.Head().Levels[0], nil
}

// inferred answers the weak head normal form of x's type, which must be of that form.
func (x subject) inferred(form int, wrong api.Errno) (reduce.Value, error) {
	ty, err := x.infer()
	if err != nil {
		return reduce.Value{}, err
	}
	v, e := reduce.Try(func() reduce.Value { return x.machine.Value(ty, x.Deep()) })
	if e == api.OK && v.Form() != form {
		e = wrong
	}
	return v, refused(e)
}

// check tells whether ty is the type of x.
func (x subject) check(ty reduce.Cell) error {
	if err := x.limit(ty); err != nil {
		return err
	}
	own, err := x.infer()
	if err != nil {
		return err
	}
	one, e := reduce.Try(func() bool { return x.asker.One(own, ty, x.Deep()) })
	if e == api.OK && !one {
		e = api.ErrType
	}
	return refused(e)
}

// limit refuses a type that is more than term.Check takes.
func (x subject) limit(ty reduce.Cell) error {
	_, e := reduce.Try(func() int { x.machine.Limit(ty, x.Deep()); return 0 })
	return refused(e)
}

// known tells whether all variables of l are level parameters that there are.
func (j *judge) known(l api.Level) bool { return level.Bound(l) <= max(j.levels, 0) }

// typeOfConst answers the type of a constant, which is read once. (One with so many levels that it has no bytes has no type either.)
func (j *judge) typeOfConst(t api.Term) (reduce.Cell, error) {
	key, _ := bytes.Term(t)
	if c, ok := j.constants[string(key)]; ok {
		return c, nil
	}
	ty, e := Const(j.sig, t.Name, t.Levels)
	if e != api.OK {
		return reduce.Cell{}, refused(e)
	}
	c := reduce.Scope{}.Cell(ty)
	j.constants[string(key)] = c
	return c, nil
}
