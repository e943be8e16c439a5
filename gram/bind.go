package gram

import (
	"slices"

	"telamon/api"
)

const (
	expBytes = 96                     // what an expression takes of memory at the least
	mostExps = (1<<31 - 1) / expBytes // more of them are beyond the bound of 2^31 - 1 bytes
)

// isBinder: a name, or the word that stands for none.
func isBinder(t api.Token) bool { return isName(t) || t.Kind == api.KWord && t.Text == "_" }

func (p *parser) atBinder() bool { return isBinder(p.here()) }

func (p *parser) binder() string {
	p.must(p.atBinder())
	return p.pass().Text
}

// atBind: what stands behind a bracket tells whether it begins a bind.
func (p *parser) atBind() bool { return (p.is("(") || p.is("{")) && p.typed(p.next+1, isBinder) }

// bindRow reads a row of binds, which may be empty.
func (p *parser) bindRow() []api.Bind {
	if !p.atBind() {
		return nil
	}
	return flat(row(p.bind, p.atBind))
}

// bind reads a bind: a binder for each of its names.
func (p *parser) bind() []api.Bind {
	bracket := p.pass()
	names := row(p.binder, p.atBinder)
	p.want(":")
	size := p.size
	p.binds++
	ty := p.exp()
	p.binds--
	hid := bracket.Text == "{"
	if hid {
		p.want("}")
	} else {
		p.want(")")
	}
	p.weigh((len(names) - 1) * (p.size - size))
	var out []api.Bind
	for _, name := range names {
		out = append(out, api.Bind{Name: name, Hid: hid, Type: p.own(ty)})
	}
	return out
}

// weigh gives up, if so many expressions more bring the answer beyond the bound. (Two dozen binds of two names, within one another's types, come to that.)
func (p *parser) weigh(more int) {
	p.size += more
	if p.size > mostExps {
		p.fail(api.ErrLong)
	}
}

// own is a bound type in memory of its own. Those of binds within another one share theirs until that one is read: nothing is copied that is too much in the end.
func (p *parser) own(ty api.Exp) api.Exp {
	if p.binds > 0 {
		return ty
	}
	return copied(ty)
}

func (p *parser) atLbind() bool { return p.atBinder() || p.is("{") || p.atBind() }

func (p *parser) lbind() []api.Bind {
	if p.atBind() {
		return p.bind()
	}
	hid := p.took("{")
	name := p.binder()
	if hid {
		p.want("}")
	}
	return []api.Bind{{Name: name, Hid: hid}}
}

func flat(l [][]api.Bind) []api.Bind { return slices.Concat(l...) }

// under puts x under binders, each of which is an expression of that form.
func (p *parser) under(form, at int, l []api.Bind, x api.Exp) api.Exp {
	for i := len(l) - 1; i >= 0; i-- {
		out := p.begun(form, at)
		out.Binds, out.Kids = []api.Bind{l[i]}, []api.Exp{x}
		x = out
	}
	return x
}

// copied is x in memory of its own.
func copied(x api.Exp) api.Exp {
	x.Binds, x.Kids = slices.Clone(x.Binds), slices.Clone(x.Kids)
	for i := range x.Binds {
		x.Binds[i].Type = copied(x.Binds[i].Type)
	}
	for i := range x.Kids {
		x.Kids[i] = copied(x.Kids[i])
	}
	return x
}
