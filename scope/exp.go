package scope

import (
	"slices"

	"telamon/api"
)

// each is l in new memory, with what one makes of each of it; or the first error.
func each[T any](l []T, one func(*T) error) ([]T, error) {
	out := slices.Clone(l)
	for i := range out {
		if err := one(&out[i]); err != nil {
			return nil, err
		}
	}
	return out, nil
}

// exp puts what they mean in the place of all names in an expression. (Its lists are replaced, not changed.)
func (s *scope) exp(x *api.Exp) (err error) {
	if err = s.weigh(x.At, 1); err != nil {
		return err
	}
	switch *x = bare(*x); x.Form {
	case api.XName:
		return s.name(x)
	case api.XLam, api.XPi, api.XSigma:
		return s.under(x)
	case api.XLet:
		return s.let(x)
	}
	x.Kids, err = each(x.Kids, s.exp)
	return err
}

// under resolves an expression of a form that binds: its kids are within its binders.
func (s *scope) under(x *api.Exp) (err error) {
	var end func()
	if x.Binds, end, err = s.binders(x.Binds); err != nil {
		return err
	}
	x.Kids, err = each(x.Kids, s.exp)
	end()
	return err
}

// let resolves a let, which binds in its body alone.
func (s *scope) let(x *api.Exp) error {
	body := min(2, len(x.Kids))
	outer, err := each(x.Kids[:body], s.exp)
	if err != nil {
		return err
	}
	end := s.bind(x.Name)
	inner, err := each(x.Kids[body:], s.exp)
	end()
	x.Kids = slices.Concat(outer, inner)
	return err
}

// binders resolves the types of a row of binders, each of which is within those ahead of it, and lets them bind until their end.
func (s *scope) binders(l []api.Bind) (out []api.Bind, end func(), err error) {
	var ends []func()
	out, err = each(l, func(b *api.Bind) error {
		err := s.exp(&b.Type)
		ends = append(ends, s.bind(b.Name))
		return err
	})
	return out, func() { endAll(ends) }, err
}

func endAll(ends []func()) {
	for _, end := range slices.Backward(ends) {
		end()
	}
}

// name puts what it means in the place of a name.
func (s *scope) name(x *api.Exp) error {
	if level, ok := s.level(x.Name); ok {
		*x = s.local(level, x.At)
		return nil
	}
	g, err := s.mean(x.Name)
	if err != nil {
		return fault{x.At, err}
	}
	x.Name = g.name
	if !g.ctor {
		err = s.apply(x, g.home.shared())
	}
	return err
}

func (s *scope) local(level, at int) api.Exp {
	return api.Exp{Form: api.XLocal, N: s.deep() - 1 - level, At: at}
}

// apply applies a name to the first parameters.
func (s *scope) apply(x *api.Exp, many int) error {
	if err := s.weigh(x.At, 2*many); err != nil {
		return err
	}
	for i, p := range s.params[:many] {
		*x = api.Exp{Form: api.XApp, Hid: p.Hid, Kids: []api.Exp{*x, s.local(i, x.At)}, At: x.At}
	}
	return nil
}

// bare is x with the fields that its form has and nothing else.
func bare(x api.Exp) api.Exp {
	out := api.Exp{Form: x.Form, At: x.At}
	switch x.Form {
	case api.XName:
		out.Name = x.Name
	case api.XSet, api.XLocal:
		out.N = x.N
	case api.XApp:
		out.Hid, out.Kids = x.Hid, x.Kids
	case api.XLam, api.XPi, api.XSigma:
		out.Binds, out.Kids = x.Binds, x.Kids
	case api.XLet:
		out.Name, out.Kids = x.Name, x.Kids
	case api.XRaw, api.XPair, api.XFst, api.XSnd, api.XHid:
		out.Kids = x.Kids
	}
	return out
}

// copied is x in memory of its own.
func copied(x api.Exp) api.Exp {
	x.Binds, x.Kids = copiedBinds(x.Binds), slices.Clone(x.Kids)
	for i := range x.Kids {
		x.Kids[i] = copied(x.Kids[i])
	}
	return x
}

func copiedBinds(l []api.Bind) []api.Bind {
	out := slices.Clone(l)
	for i := range out {
		out[i].Type = copied(out[i].Type)
	}
	return out
}
