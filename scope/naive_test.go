package scope_test

import (
	"strings"

	"telamon/api"
)

// The second reading: all that is declared is one list, modules are told by their paths, and every name is looked for by going over the list. It gives up by a panic.

type wrong struct {
	at int
	e  api.Errno
}

// fact is something declared: a name, a module, or what an open brings (of: the global name).
type fact struct {
	kind         string // "name", "module", "open"
	in           string // the path of the module that declares or opens
	name, of     string
	ctor, secret bool
	binds        []api.Bind
}

type reader struct {
	facts []fact
	out   []api.Stmt
}

// here is a place: the path of the module around, the locals around, whether items are private.
type here struct {
	path   string
	locals []string
	params []api.Bind
	secret bool
}

func naive(l []api.Stmt) (out []api.Stmt, at int, e api.Errno) {
	var r reader
	defer func() {
		if w, ok := recover().(wrong); ok {
			out, at, e = nil, w.at, w.e
		}
	}()
	for _, x := range []struct {
		name string
		ctor bool
	}{{"Eq", false}, {"refl", true}, {"Top", false}, {"tt", true}, {"Bot", false}, {"uip", false}} {
		r.facts = append(r.facts, fact{kind: "name", in: "the prelude", name: x.name, of: x.name, ctor: x.ctor})
	}
	r.items(here{}, l)
	return r.out, 0, api.OK
}

func join(path, name string) string {
	if path == "" {
		return name
	}
	return path + "." + name
}

// ways is the paths of all modules around, the innermost first.
func ways(path string) []string {
	l := []string{path}
	for path != "" {
		i := strings.LastIndex(path, ".")
		path = path[:max(i, 0)]
		l = append(l, path)
	}
	return l
}

func isAround(path string, h here) bool {
	return path == "" || strings.HasPrefix(h.path+".", path+".")
}

func (r *reader) all(ok func(f fact) bool) []fact {
	var out []fact
	for _, f := range r.facts {
		if ok(f) {
			out = append(out, f)
		}
	}
	return out
}

// module tells the path of the module that is meant by a path.
func (r *reader) module(h here, path string) (string, bool) {
next:
	for _, way := range ways(h.path) {
		for _, step := range strings.Split(path, ".") {
			l := r.all(func(f fact) bool { return f.kind == "module" && f.in == way && f.name == step })
			if len(l) == 0 || l[0].secret && !isAround(way, h) {
				continue next
			}
			way = join(way, step)
		}
		return way, true
	}
	return "", false
}

// meanings is all that a name may mean, if it is no local.
func (r *reader) meanings(h here, name string) []fact {
	if i := strings.LastIndex(name, "."); i >= 0 {
		path, ok := r.module(h, name[:i])
		if !ok {
			return nil
		}
		return r.all(func(f fact) bool {
			return f.kind == "name" && f.in == path && f.name == name[i+1:] && (!f.secret || isAround(path, h))
		})
	}
	for _, way := range append(ways(h.path), "the prelude") {
		var out []fact
		for _, f := range r.all(func(f fact) bool { return f.kind != "module" && f.in == way && f.name == name }) {
			twice := false
			for _, g := range out {
				twice = twice || g.of == f.of
			}
			if !twice {
				out = append(out, f)
			}
		}
		if len(out) > 0 {
			return out
		}
	}
	return nil
}

func (h here) index(name string) int {
	for i := range h.locals {
		if h.locals[len(h.locals)-1-i] == name {
			return i
		}
	}
	return -1
}

func (h here) with(name string) here {
	if name == "_" || strings.Contains(name, ".") {
		name = " "
	}
	h.locals = append(append([]string{}, h.locals...), name)
	return h
}

func (r *reader) binds(h here, l []api.Bind) ([]api.Bind, here) {
	var out []api.Bind
	for _, b := range l {
		out = append(out, api.Bind{Name: b.Name, Hid: b.Hid, Type: r.exp(h, b.Type)})
		h = h.with(b.Name)
	}
	return out, h
}

// parameters is how many of the parameters around a place belong to modules that are around what is declared there, too.
func (r *reader) parameters(h here, g string) int {
	n := 0
	for _, way := range ways(h.path) {
		for _, m := range r.all(func(f fact) bool { return f.kind == "module" && join(f.in, f.name) == way }) {
			if strings.HasPrefix(g, way+".") {
				n += len(m.binds)
			}
		}
	}
	return n
}

func (r *reader) exp(h here, x api.Exp) api.Exp {
	out := api.Exp{Form: x.Form, At: x.At}
	switch x.Form {
	case api.XSet, api.XLocal:
		out.N = x.N
	case api.XApp:
		out.Hid = x.Hid
	case api.XName:
		if i := h.index(x.Name); i >= 0 && !strings.Contains(x.Name, ".") {
			return api.Exp{Form: api.XLocal, N: i, At: x.At}
		}
		l := r.meanings(h, x.Name)
		if len(l) != 1 {
			panic(wrong{x.At, []api.Errno{api.ErrScope, api.ErrAmbiguous}[min(len(l), 1)]})
		}
		out.Name = l[0].of
		if !l[0].ctor && l[0].in != "the prelude" {
			for i := range r.parameters(h, l[0].of) {
				out = api.Exp{Form: api.XApp, Hid: h.params[i].Hid, At: x.At, Kids: []api.Exp{out, {Form: api.XLocal, N: len(h.locals) - 1 - i, At: x.At}}}
			}
		}
		return out
	case api.XLet:
		out.Name = x.Name
		out.Kids = []api.Exp{r.exp(h, x.Kids[0]), r.exp(h, x.Kids[1]), r.exp(h.with(x.Name), x.Kids[2])}
		return out
	case api.XPi, api.XLam, api.XSigma:
		out.Binds, h = r.binds(h, x.Binds)
	}
	for _, k := range x.Kids {
		out.Kids = append(out.Kids, r.exp(h, k))
	}
	return out
}

// declarable: nothing is wrong with the names that a statement declares.
func (r *reader) declarable(h here, kind string, at int, l ...string) {
	for i, name := range l {
		if strings.Contains(name, ".") {
			panic(wrong{at, api.ErrToken})
		}
		clash := len(r.all(func(f fact) bool { return f.kind == kind && f.in == h.path && f.name == name })) > 0
		for _, other := range l[:i] {
			clash = clash || other == name
		}
		if clash {
			panic(wrong{at, api.ErrClash})
		}
	}
}

func (r *reader) declare(h here, name string, ctor bool) string {
	of := join(h.path, name)
	r.facts = append(r.facts, fact{kind: "name", in: h.path, name: name, of: of, ctor: ctor, secret: h.secret})
	return of
}

func (r *reader) items(h here, l []api.Stmt) {
	fun := ""
	for i, s := range l {
		if s.Form == api.SClause {
			head := s.Left
			for head.Form == api.XApp {
				head = head.Kids[0]
			}
			if fun == "" || head.Form != api.XName || head.Name != fun {
				panic(wrong{s.At, api.ErrMissing})
			}
			d := &r.out[len(r.out)-1]
			d.Sub = append(d.Sub, r.clause(h, s, d.Name))
			continue
		}
		fun = ""
		switch s.Form {
		case api.SType:
			if len(s.Names) != 1 || i+1 == len(l) || l[i+1].Form != api.SClause {
				panic(wrong{s.At, api.ErrMissing})
			}
			fun = s.Names[0]
			r.signature(h, s, func(name string, ty api.Exp) {
				r.out = append(r.out, api.Stmt{Form: api.SDef, Name: name, Binds: h.params, N: len(h.params), Exp: ty, At: s.At})
			}, false)
		case api.SPost:
			for _, ty := range s.Sub {
				r.signature(h, ty, func(name string, x api.Exp) {
					r.out = append(r.out, api.Stmt{Form: api.SPost, Name: name, Binds: h.params, N: len(h.params), Exp: x, At: ty.At})
				}, false)
			}
		case api.SData:
			r.data(h, s)
		case api.SModule:
			r.declarable(h, "module", s.At, s.Name)
			l, in := r.binds(h, s.Binds)
			r.facts = append(r.facts, fact{kind: "module", in: h.path, name: s.Name, binds: l, secret: h.secret})
			in.path, in.params, in.secret = join(h.path, s.Name), append(append([]api.Bind{}, h.params...), l...), false
			r.items(in, s.Sub)
		case api.SPriv:
			in := h
			in.secret = true
			r.items(in, s.Sub)
		case api.SOpen:
			r.open(h, s)
		}
	}
}

func (r *reader) signature(h here, s api.Stmt, put func(string, api.Exp), ctor bool) {
	r.declarable(h, "name", s.At, s.Names...)
	x := r.exp(h, s.Exp)
	for _, name := range s.Names {
		put(r.declare(h, name, ctor), x)
	}
}

func (r *reader) data(h here, s api.Stmt) {
	r.declarable(h, "name", s.At, s.Name)
	binds, in := r.binds(h, s.Binds)
	x := r.exp(in, s.Exp)
	d := api.Stmt{Form: api.SData, Name: r.declare(h, s.Name, false), N: len(h.params), Exp: x, At: s.At}
	d.Binds = append(append([]api.Bind{}, h.params...), binds...)
	for _, c := range s.Sub {
		r.signature(in, c, func(name string, x api.Exp) {
			d.Sub = append(d.Sub, api.Stmt{Form: api.SType, Names: []string{name}, Exp: x, At: c.At})
		}, true)
	}
	r.out = append(r.out, d)
}

func (r *reader) open(h here, s api.Stmt) {
	path, ok := r.module(h, s.Name)
	if !ok {
		panic(wrong{s.At, api.ErrScope})
	}
	public := func(name string) bool {
		return len(r.all(func(f fact) bool { return f.kind == "name" && f.in == path && f.name == name && !f.secret })) > 0
	}
	in := func(l []string, name string) bool {
		return strings.Contains("\n"+strings.Join(l, "\n")+"\n", "\n"+name+"\n")
	}
	var first []string
	for _, x := range s.Renaming {
		first = append(first, x[0])
	}
	for _, name := range append(append(append([]string{}, s.Using...), s.Hiding...), first...) {
		if !public(name) {
			panic(wrong{s.At, api.ErrScope})
		}
	}
	for _, f := range r.all(func(f fact) bool { return f.kind == "name" && f.in == path && !f.secret }) {
		if s.Only && !in(s.Using, f.name) && !in(first, f.name) || !s.Only && in(s.Hiding, f.name) {
			continue
		}
		bring := func(name string) {
			r.facts = append(r.facts, fact{kind: "open", in: h.path, name: name, of: f.of, ctor: f.ctor})
		}
		for _, x := range s.Renaming {
			if x[0] == f.name {
				bring(x[1])
			}
		}
		if !in(first, f.name) {
			bring(f.name)
		}
	}
}

func (r *reader) clause(h here, s api.Stmt, name string) api.Stmt {
	var own []string
	left := r.left(h, s.Left, api.Exp{Form: api.XName, Name: name}, &own)
	in := h
	for _, name := range own {
		in = in.with(name)
	}
	return api.Stmt{Form: api.SClause, N: len(own), Left: variables(left, len(own)), Exp: r.exp(in, s.Exp), At: s.At}
}

// left is what stands applied to patterns, with another head; own are the variables so far.
func (r *reader) left(h here, x, head api.Exp, own *[]string) api.Exp {
	if x.Form == api.XApp {
		f := r.left(h, x.Kids[0], head, own)
		return api.Exp{Form: api.XApp, Hid: x.Hid, At: x.At, Kids: []api.Exp{f, r.pattern(h, x.Kids[1], own)}}
	}
	head.At = x.At
	return head
}

func (r *reader) pattern(h here, x api.Exp, own *[]string) api.Exp {
	head := x
	for head.Form == api.XApp {
		head = head.Kids[0]
	}
	around := append(append([]string{}, h.locals...), *own...)
	if head.Form == api.XName && (here{locals: around}).index(head.Name) < 0 {
		l := r.meanings(h, head.Name)
		for _, f := range l {
			if f.ctor && len(l) > 1 {
				panic(wrong{head.At, api.ErrAmbiguous})
			}
			if f.ctor {
				return r.left(h, x, api.Exp{Form: api.XName, Name: f.of}, own)
			}
		}
	}
	switch {
	case x.Form == api.XName && !strings.Contains(x.Name, "."):
		if (here{locals: *own}).index(x.Name) >= 0 {
			panic(wrong{x.At, api.ErrClash})
		}
		*own = append(*own, x.Name)
	case x.Form == api.XHole:
		*own = append(*own, " ")
	case x.Form == api.XNone:
		return api.Exp{Form: api.XNone, At: x.At}
	default:
		panic(wrong{x.At, api.ErrPattern})
	}
	return api.Exp{Form: api.XLocal, N: len(*own), At: x.At}
}

// variables counts them from within.
func variables(x api.Exp, many int) api.Exp {
	if x.Form == api.XLocal {
		x.N = many - x.N
	}
	var l []api.Exp
	for _, k := range x.Kids {
		l = append(l, variables(k, many))
	}
	x.Kids = l
	return x
}
