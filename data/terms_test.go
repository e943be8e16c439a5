package data_test

import (
	"slices"
	"strings"
	"testing"

	"telamon/api"
	"telamon/data"
	"telamon/sig"
)

const much = 1000000 // of fuel: more than any test here needs

func variable(n int) api.Term { return api.Term{Form: api.TVar, N: n} }

func meta(n int) api.Term { return api.Term{Form: api.TMeta, N: n} }

func sort(l api.Level) api.Term { return api.Term{Form: api.TSort, Levels: []api.Level{l}} }

func set(n int) api.Term { return sort(api.Level{N: n}) }

func param(n, add int) api.Level { return api.Level{Vars: []api.LVar{{Var: n, Add: add}}} }

func levels(n ...int) []api.Level {
	var out []api.Level
	for _, x := range n {
		out = append(out, api.Level{N: x})
	}
	return out
}

func of(form int, kids ...api.Term) api.Term { return api.Term{Form: form, Kids: kids} }

func hidden(t api.Term) api.Term {
	t.Hid = true
	return t
}

func app(f api.Term, args ...api.Term) api.Term {
	for _, a := range args {
		f = of(api.TApp, f, a)
	}
	return f
}

// c is the constant of that name, without levels, applied to args; at is the same with levels.
func c(name string, args ...api.Term) api.Term { return at(name, nil, args...) }

func at(name string, levels []api.Level, args ...api.Term) api.Term {
	return app(api.Term{Form: api.TConst, Name: name, Levels: levels}, args...)
}

// bind is a binder in whose second kid the constant x stands for the variable: the tests write by names what the program tells by indices.
func bind(form int, x string, domain, body api.Term) api.Term {
	return of(form, domain, bound(body, x, 0))
}

func pi(x string, domain, codomain api.Term) api.Term { return bind(api.TPi, x, domain, codomain) }

// arrow is a type of functions of all but the last one.
func arrow(types ...api.Term) api.Term {
	t := types[len(types)-1]
	for _, d := range slices.Backward(types[:len(types)-1]) {
		t = pi("", d, t)
	}
	return t
}

func sigma(x string, first, second api.Term) api.Term { return bind(api.TSigma, x, first, second) }

func lam(x string, domain, body api.Term) api.Term { return bind(api.TLam, x, domain, body) }

// nats is a λ for each of the names, all numbers.
func nats(names string, body api.Term) api.Term {
	for _, x := range slices.Backward(strings.Fields(names)) {
		body = lam(x, c("Nat"), body)
	}
	return body
}

// bound is t in the scope of one variable more, which is put for the constant x.
func bound(t api.Term, x string, deep int) api.Term {
	switch {
	case t.Form == api.TVar && t.N >= deep:
		return variable(t.N + 1)
	case t.Form == api.TConst && t.Name == x:
		return variable(deep)
	}
	kids := t.Kids
	t.Kids = nil
	for i, k := range kids {
		t.Kids = append(t.Kids, bound(k, x, deep+binders(t.Form, i)))
	}
	return t
}

func binders(form, kid int) int {
	if kid == 1 && (form == api.TPi || form == api.TLam || form == api.TSigma) {
		return 1
	}
	return 0
}

func pair(sigma, a, b api.Term) api.Term { return of(api.TPair, sigma, a, b) }

func fst(t api.Term) api.Term { return of(api.TFst, t) }

func snd(t api.Term) api.Term { return of(api.TSnd, t) }

func number(n int) api.Term {
	t := c("zero")
	for range n {
		t = c("suc", t)
	}
	return t
}

// natElim is by the motive λ _. ty, which is in the universe of that level.
func natElim(l int, ty, z, s, x api.Term) api.Term {
	return at("Nat.elim", levels(l), nats("_", ty), z, s, x)
}

// endless is a term that steps to itself; it has no type.
func endless() api.Term {
	f := lam("x", c("Nat"), app(c("x"), c("x")))
	return app(f, f)
}

func family(name string, levels, params int, ty api.Term, ctors ...api.Ctor) api.Decl {
	return api.Decl{Kind: api.DData, Name: name, Levels: levels, Params: params, Type: ty, Ctors: ctors}
}

func ctor(name string, ty api.Term) api.Ctor { return api.Ctor{Name: name, Type: ty} }

func def(name string, levels int, ty, value api.Term) api.Decl {
	return api.Decl{Kind: api.DDef, Name: name, Levels: levels, Type: ty, Value: value}
}

func axiom(name string, levels int, ty api.Term) api.Decl {
	return api.Decl{Kind: api.DAxiom, Name: name, Levels: levels, Type: ty}
}

func nat() api.Decl {
	return family("Nat", 0, 0, set(0), ctor("zero", c("Nat")), ctor("suc", arrow(c("Nat"), c("Nat"))))
}

func eq() api.Decl {
	s, l := sort(param(0, 0)), []api.Level{param(0, 0)}
	refl := hidden(pi("A", s, hidden(pi("a", c("A"), at("Eq", l, c("A"), c("a"), c("a"))))))
	return family("Eq", 1, 2, pi("A", s, pi("a", c("A"), arrow(c("A"), s))), ctor("refl", refl))
}

func vec() api.Decl {
	over := func(t api.Term) api.Term { return pi("A", set(0), t) }
	cons := pi("n", c("Nat"), arrow(c("A"), c("Vec", c("A"), c("n")), c("Vec", c("A"), c("suc", c("n")))))
	return family("Vec", 0, 1, over(arrow(c("Nat"), set(0))), ctor("nil", over(c("Vec", c("A"), c("zero")))), ctor("cons", over(cons)))
}

// plus goes by its first argument.
func plus() api.Decl {
	n := c("Nat")
	value := nats("m n", natElim(0, n, c("n"), nats("k r", c("suc", c("r"))), c("m")))
	return def("plus", 0, arrow(n, n, n), value)
}

// decls is what the tests' signature has, all of it by Add.
func decls() []api.Decl {
	n, v := c("Nat"), sort(param(0, 0))
	return []api.Decl{
		nat(), eq(), vec(), plus(),
		def("id", 1, pi("A", v, arrow(c("A"), c("A"))), lam("A", v, lam("x", c("A"), c("x")))),
		def("N", 0, set(0), n),
		def("Eq0", 0, arrow(n, n, set(0)), nats("a b", at("Eq", levels(0), n, c("a"), c("b")))),
		def("U", 1, sort(param(0, 1)), v),
		def("Arity", 0, arrow(n, set(0)), nats("n", natElim(1, set(0), n, lam("_", n, lam("X", set(0), arrow(n, c("X")))), c("n")))),
		family("List", 1, 1, pi("A", v, v), ctor("none", pi("A", v, at("List", []api.Level{param(0, 0)}, c("A"))))),
		axiom("any", 1, pi("X", v, c("X"))),
		axiom("F", 0, arrow(set(0), set(0))),
	}
}

func signature(t testing.TB, more ...api.Decl) *sig.Sig {
	t.Helper()
	s := sig.New()
	for _, d := range append(decls(), more...) {
		if e := data.Add(s, d, much); e != api.OK {
			t.Fatalf("%s: %v", d.Name, e)
		}
	}
	return s
}

// mapped is t with a change made at each part, the kids first.
func mapped(t api.Term, change func(api.Term) api.Term) api.Term {
	kids := t.Kids
	t.Kids = nil
	for _, k := range kids {
		t.Kids = append(t.Kids, mapped(k, change))
	}
	return change(t)
}

// all is d with a change made at each part of all its terms.
func all(d api.Decl, change func(api.Term) api.Term) api.Decl {
	d.Type = mapped(d.Type, change)
	if d.Kind == api.DDef {
		d.Value = mapped(d.Value, change)
	}
	ctors := d.Ctors
	d.Ctors = nil
	for _, k := range ctors {
		d.Ctors = append(d.Ctors, ctor(k.Name, mapped(k.Type, change)))
	}
	return d
}
