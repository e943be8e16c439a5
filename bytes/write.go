package bytes

import "telamon/api"

// writer gathers the bytes of what has been judged already, as long as there are not too many.
type writer struct {
	out     []byte
	tooMany bool
}

// written answers what has been gathered.
func (w *writer) written() ([]byte, api.Errno) {
	if w.tooMany {
		return nil, api.ErrLong
	}
	return w.out, api.OK
}

func (w *writer) put(b ...byte) {
	w.tooMany = w.tooMany || len(w.out)+len(b) > api.MaxBytes
	if !w.tooMany {
		w.out = append(w.out, b...)
	}
}

// number writes seven bits a byte, the lowest first; all bytes but the last have 128 more.
func (w *writer) number(n int) {
	u := uint(n)
	for ; u > 127; u >>= 7 {
		w.put(byte(u) | 128)
	}
	w.put(byte(u))
}

func (w *writer) flag(f bool) {
	if f {
		w.put(1)
	} else {
		w.put(0)
	}
}

func (w *writer) name(s string) {
	w.number(len(s))
	w.put([]byte(s)...)
}

func (w *writer) level(l api.Level) {
	w.number(l.N)
	w.number(len(l.Vars))
	each(l.Vars, w.variable)
}

func (w *writer) variable(v api.LVar) {
	w.number(v.Var)
	w.number(v.Add)
}

func (w *writer) term(t api.Term) {
	w.number(t.Form)
	switch t.Form {
	case api.TVar, api.TMeta:
		w.number(t.N)
	case api.TPi, api.TLam, api.TApp:
		w.flag(t.Hid)
	case api.TConst:
		w.name(t.Name)
		w.number(len(t.Levels))
		fallthrough
	case api.TSort:
		each(t.Levels, w.level)
	}
	each(t.Kids, w.term)
}

func (w *writer) decls(l []api.Decl) {
	w.number(len(l))
	each(l, w.decl)
}

func (w *writer) decl(d api.Decl) {
	w.number(d.Kind)
	w.name(d.Name)
	w.number(d.Levels)
	w.term(d.Type)
	switch d.Kind {
	case api.DDef:
		w.term(d.Value)
	case api.DData:
		w.number(d.Params)
		w.number(len(d.Ctors))
		each(d.Ctors, w.ctor)
	}
}

func (w *writer) ctor(c api.Ctor) {
	w.name(c.Name)
	w.term(c.Type)
}

func each[T any](l []T, step func(T)) {
	for _, x := range l {
		step(x)
	}
}
