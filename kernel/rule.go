package kernel

import (
	"telamon/api"
	"telamon/level"
	"telamon/reduce"
)

// rule answers the type of a term of one form.
type rule func(subject) (reduce.Cell, error)

// rules answers the rules, by form.
func rules() [api.TMeta + 1]rule {
	return [api.TMeta + 1]rule{
		api.TVar:   subject.variable,
		api.TSort:  subject.universe,
		api.TPi:    subject.binder,
		api.TLam:   subject.function,
		api.TApp:   subject.application,
		api.TSigma: subject.binder,
		api.TPair:  subject.pair,
		api.TFst:   subject.first,
		api.TSnd:   subject.second,
		api.TConst: subject.constant,
		api.TMeta:  subject.meta,
	}
}

func (x subject) variable() (reduce.Cell, error) {
	place, ok := x.term.Variable()
	if !ok {
		return reduce.Cell{}, refused(api.ErrVar)
	}
	return x.typeOf(place), nil
}

func (x subject) universe() (reduce.Cell, error) {
	l := x.term.Stands().Levels[0]
	if !x.known(l) {
		return reduce.Cell{}, refused(api.ErrLevels)
	}
	return universe(level.Suc(l, 1))
}

// universe answers the TSort of l, a level that was worked out.
func universe(l api.Level, e api.Errno) (reduce.Cell, error) {
	if e != api.OK {
		return reduce.Cell{}, refused(e)
	}
	return reduce.Scope{}.Cell(api.Term{Form: api.TSort, Levels: []api.Level{l}}), nil
}

// binder is the rule of TPis and TSigmas.
func (x subject) binder() (reduce.Cell, error) {
	a, err := x.kid(0).sort()
	if err != nil {
		return reduce.Cell{}, err
	}
	b, err := x.body().sort()
	if err != nil {
		return reduce.Cell{}, err
	}
	return universe(level.Max(a, b))
}

// function is the rule of TLams.
func (x subject) function() (reduce.Cell, error) {
	domain := x.kid(0)
	if _, err := domain.sort(); err != nil {
		return reduce.Cell{}, err
	}
	ty, err := x.body().infer()
	if err != nil {
		return reduce.Cell{}, err
	}
	return x.Pi(x.term.Stands().Hid, domain.term, ty), nil
}

func (x subject) application() (reduce.Cell, error) {
	pi, err := x.kid(0).inferred(api.TPi, api.ErrPi)
	if err != nil {
		return reduce.Cell{}, err
	}
	arg := x.kid(1)
	if err := arg.check(pi.Kid(0, x.Deep())); err != nil {
		return reduce.Cell{}, err
	}
	return pi.Filled(arg.term), nil
}

func (x subject) pair() (reduce.Cell, error) {
	sigma, first, second := x.kid(0), x.kid(1), x.kid(2)
	if _, err := sigma.sort(); err != nil {
		return reduce.Cell{}, err
	}
	if err := first.check(sigma.kid(0).term); err != nil {
		return reduce.Cell{}, err
	}
	return sigma.term, second.check(sigma.term.Filled(first.term))
}

func (x subject) first() (reduce.Cell, error) {
	sigma, err := x.kid(0).inferred(api.TSigma, api.ErrSigma)
	if err != nil {
		return reduce.Cell{}, err
	}
	return sigma.Kid(0, x.Deep()), nil
}

func (x subject) second() (reduce.Cell, error) {
	kid := x.kid(0)
	sigma, err := kid.inferred(api.TSigma, api.ErrSigma)
	if err != nil {
		return reduce.Cell{}, err
	}
	return sigma.Filled(kid.term.Projected(api.TFst)), nil
}

func (x subject) constant() (reduce.Cell, error) {
	t := x.term.Stands()
	ty, err := x.typeOfConst(t)
	if err != nil {
		return reduce.Cell{}, err
	}
	for _, l := range t.Levels {
		if !x.known(l) {
			return reduce.Cell{}, refused(api.ErrLevels)
		}
	}
	return ty, nil
}

func (x subject) meta() (reduce.Cell, error) { return reduce.Cell{}, refused(api.ErrForm) }
