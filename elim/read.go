package elim

import (
	"iter"
	"slices"

	"telamon/api"
	"telamon/bytes"
	"telamon/tele"
	"telamon/term"
)

// family is what was read off a family: each of params and indices stands in the scope of those ahead of it.
type family struct {
	decl            api.Decl // as it was handed in: it is read, never answered
	params, indices []api.Term
	sort            api.Level
}

// ctor is what was read off a constructor: args in the scope of the params, result in that of params and args.
type ctor struct {
	name   string
	args   []api.Term
	rec    []recursive
	result []api.Term
}

// recursive is an argument of the type (zs) -> D params idx: its place among the args, zs in the scope of the params and of the args ahead of it, idx in that of zs, too.
type recursive struct {
	arg     int
	zs, idx []api.Term
}

// readFamily reads off d what a family has; what is none leaves by the label.
func readFamily(d api.Decl) (family, api.Errno) {
	var domains []api.Term
	var end api.Term
	if _, e := bytes.Decls([]api.Decl{d}); e != api.OK {
		return family{}, e
	}
	if d.Kind != api.DData {
		goto none
	}
	domains, end = opened(d.Type)
	if len(domains) < d.Params || end.Form != api.TSort {
		goto none
	}
	return family{d, slices.Clone(domains[:d.Params]), slices.Clone(domains[d.Params:]), end.Levels[0]}, api.OK
none:
	return family{}, api.ErrData
}

// readOne reads off d the family, and its constructor k.
func readOne(d api.Decl, k int) (family, ctor, api.Errno) {
	f, e := readFamily(d)
	if e != api.OK {
		return family{}, ctor{}, e
	}
	if k < 0 || k >= len(d.Ctors) {
		return family{}, ctor{}, api.ErrArg
	}
	c, e := f.readCtor(d.Ctors[k])
	return f, c, e
}

// ctors goes through the constructors, in order, each with the error that it has.
func (f family) ctors() iter.Seq2[ctor, api.Errno] {
	return func(yield func(ctor, api.Errno) bool) {
		for _, c := range f.decl.Ctors {
			if !yield(f.readCtor(c)) {
				return
			}
		}
	}
}

// readCtor reads off c what a constructor of f has; what is none leaves by the label.
func (f family) readCtor(c api.Ctor) (ctor, api.Errno) {
	var args, result []api.Term
	ok := false
	domains, end := opened(c.Type)
	if len(domains) < len(f.params) || !slices.EqualFunc(domains[:len(f.params)], f.params, sameShown) {
		goto none
	}
	args = slices.Clone(domains[len(f.params):])
	if result, ok = f.instance(end, len(args)); !ok {
		goto none
	}
	return ctor{c.Name, args, f.recursives(args), result}, api.OK
none:
	return ctor{}, api.ErrData
}

// recursives answers those of a constructor's args that are recursive.
func (f family) recursives(args []api.Term) []recursive {
	var out []recursive
	for i, a := range args {
		zs, end := opened(a)
		if idx, ok := f.instance(end, i+len(zs)); ok {
			out = append(out, recursive{i, zs, idx})
		}
	}
	return out
}

// instance answers the idx of t, if it is D params idx, the params the variables themselves, with that many binders behind these around t.
func (f family) instance(t api.Term, behind int) ([]api.Term, bool) {
	head, args, _ := tele.Spine(t)
	if !term.Same(head, f.own(f.decl.Name)) || len(args) != len(f.params)+len(f.indices) {
		return nil, false
	}
	for i, a := range args[:len(f.params)] {
		if !term.Same(a, variable(behind+len(f.params)-1-i)) {
			return nil, false
		}
	}
	return slices.Clone(args[len(f.params):]), true
}

// own answers the constant of that name at the family's own level parameters.
func (f family) own(name string) api.Term {
	t := api.Term{Form: api.TConst, Name: name}
	for i := range f.decl.Levels {
		t.Levels = append(t.Levels, parameter(i))
	}
	return t
}

// opened answers the domains of all TPis that a right term begins with, and what is behind them.
func opened(t api.Term) ([]api.Term, api.Term) {
	n := 0
	for x := t; x.Form == api.TPi; x = x.Kids[1] {
		n++
	}
	domains, _, end, _ := tele.Split(t, n)
	return domains, end
}

// sameShown tells whether a and b are one, part by part, Hids aside.
func sameShown(a, b api.Term) bool { return term.Same(shown(a), shown(b)) }

// shown answers t without the Hids of all its parts: a Hid says how something is written, not what it is.
func shown(t api.Term) api.Term {
	t.Hid = false
	t.Kids = each(t.Kids, shown)
	return t
}

func parameter(i int) api.Level { return api.Level{Vars: []api.LVar{{Var: i}}} }

func variable(n int) api.Term { return api.Term{Form: api.TVar, N: n} }
