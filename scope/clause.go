package scope

import (
	"slices"

	"telamon/api"
)

// left is the left side of a clause: it binds variables from the left on.
type left struct {
	*scope
	ends []func() // of its variables
}

func isClauseOf(name string, st api.Stmt) bool {
	head := headOf(st.Left)
	return st.Form == api.SClause && head.Form == api.XName && head.Name == name
}

func isApp(x api.Exp) bool { return x.Form == api.XApp && len(x.Kids) == 2 }

func headOf(x api.Exp) api.Exp {
	for isApp(x) {
		x = x.Kids[0]
	}
	return x
}

// clause resolves a clause of the function of that global name.
func (s *scope) clause(st api.Stmt, name string) (api.Stmt, error) {
	l := left{scope: s}
	out := api.Stmt{Form: api.SClause, Left: st.Left, Exp: st.Exp, At: st.At}
	if err := l.applied(&out.Left, name); err != nil {
		return out, err
	}
	out.N = len(l.ends)
	l.count(&out.Left)
	err := s.exp(&out.Exp)
	endAll(l.ends)
	return out, err
}

// applied resolves what is applied to patterns; its head has that global name.
func (l *left) applied(x *api.Exp, name string) error {
	*x = bare(*x)
	if !isApp(*x) {
		x.Name = name
		return nil
	}
	x.Kids = slices.Clone(x.Kids)
	if err := l.applied(&x.Kids[0], name); err != nil {
		return err
	}
	return l.pattern(&x.Kids[1])
}

func (l *left) pattern(x *api.Exp) error {
	head := headOf(*x)
	g, err := l.constructor(head)
	switch {
	case err != nil:
		return fault{head.At, err}
	case g.ctor:
		return l.applied(x, g.name)
	case x.Form == api.XName && !isDotted(x.Name):
		return l.variable(x, x.Name)
	case x.Form == api.XHole:
		return l.variable(x, nobody)
	case x.Form == api.XNone:
		*x = bare(*x)
		return nil
	}
	return refused(x.At, api.ErrPattern)
}

// constructor is what a name at the head of a pattern means, if that is a constructor. A name that means two things is wrong only if one of them is: else it is a variable.
func (l *left) constructor(head api.Exp) (global, error) {
	if head.Form != api.XName {
		return global{}, nil
	}
	if _, ok := l.level(head.Name); ok {
		return global{}, nil
	}
	g, err := l.mean(head.Name)
	if two, ok := isTwofold(err); ok && two.makes {
		return global{}, err
	}
	return g, nil
}

// variable binds a variable; for now its number tells which one it is, from the left.
func (l *left) variable(x *api.Exp, name string) error {
	if level, ok := l.level(name); ok && level >= len(l.params) {
		return refused(x.At, api.ErrClash)
	}
	*x = api.Exp{Form: api.XLocal, N: len(l.ends), At: x.At}
	l.ends = append(l.ends, l.bind(name))
	return nil
}

// count counts the variables from within, now that all are there.
func (l *left) count(x *api.Exp) {
	if x.Form == api.XLocal {
		x.N = len(l.ends) - 1 - x.N
	}
	for i := range x.Kids {
		l.count(&x.Kids[i])
	}
}
