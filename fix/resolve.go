package fix

import (
	"slices"

	"telamon/api"
)

// fault is something wrong, and where; the zero one is none.
type fault struct {
	at int
	e  api.Errno
}

func (f fault) is() bool { return f.e != api.OK }

// each is l in new memory, with what one makes of each of it; or the first fault.
func each[T any](l []T, one func(*T) fault) ([]T, fault) {
	out := slices.Clone(l)
	for i := range out {
		if wrong := one(&out[i]); wrong.is() {
			return nil, wrong
		}
	}
	return out, fault{}
}

// stmt puts what it means in the place of all that stands side by side in a statement. (Its lists are replaced, not changed.)
func (g *grammar) stmt(s *api.Stmt) (wrong fault) {
	*s = bareStmt(*s)
	if s.Binds, wrong = each(s.Binds, g.bind); wrong.is() {
		return wrong
	}
	if wrong = g.exp(&s.Exp); wrong.is() {
		return wrong
	}
	if wrong = g.exp(&s.Left); wrong.is() {
		return wrong
	}
	s.Sub, wrong = each(s.Sub, g.stmt)
	return wrong
}

func (g *grammar) bind(b *api.Bind) fault { return g.exp(&b.Type) }

// exp does so in an expression: what stands further in comes first.
func (g *grammar) exp(x *api.Exp) (wrong fault) {
	*x = bareExp(*x)
	if x.Binds, wrong = each(x.Binds, g.bind); wrong.is() {
		return wrong
	}
	if x.Kids, wrong = each(x.Kids, g.exp); wrong.is() {
		return wrong
	}
	if x.Form == api.XRaw {
		*x, wrong = g.meaningOf(*x)
	}
	return wrong
}
