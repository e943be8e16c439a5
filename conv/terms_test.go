package conv_test

import (
	"slices"
	"strings"
	"testing"

	"telamon/api"
	"telamon/sig"
)

const much = 100000 // of fuel: more than any test here needs

func variable(n int) api.Term { return api.Term{Form: api.TVar, N: n} }

func meta(n int) api.Term { return api.Term{Form: api.TMeta, N: n} }

func sort(l api.Level) api.Term { return api.Term{Form: api.TSort, Levels: []api.Level{l}} }

func set() api.Term { return sort(api.Level{}) }

func param(n, add int) api.Level { return api.Level{Vars: []api.LVar{{Var: n, Add: add}}} }

func zeros(n int) []api.Level { return make([]api.Level, n) }

func of(form int, kids ...api.Term) api.Term { return api.Term{Form: form, Kids: kids} }

func hidden(t api.Term) api.Term {
	t.Hid = true
	return t
}

func app(f api.Term, args ...api.Term) api.Term {
	for _, a := range args {
		f = of(api.TApp, f, a)
	}
	return f
}

// c is the constant of that name, without levels, applied to args; at is the same with levels.
func c(name string, args ...api.Term) api.Term { return at(name, nil, args...) }

func at(name string, levels []api.Level, args ...api.Term) api.Term {
	return app(api.Term{Form: api.TConst, Name: name, Levels: levels}, args...)
}

// bind is a binder in whose second kid the constant x stands for the variable: the tests write by names what the program tells by indices.
func bind(form int, x string, domain, body api.Term) api.Term {
	return of(form, domain, bound(body, x, 0))
}

func pi(x string, domain, codomain api.Term) api.Term { return bind(api.TPi, x, domain, codomain) }

func arrow(domain, codomain api.Term) api.Term { return pi("", domain, codomain) }

func sigma(x string, first, second api.Term) api.Term { return bind(api.TSigma, x, first, second) }

// lam is a λ for each of the names, all of one domain.
func lam(names string, body api.Term) api.Term {
	for _, x := range slices.Backward(strings.Fields(names)) {
		body = bind(api.TLam, x, c("Nat"), body)
	}
	return body
}

// bound is t in the scope of one variable more, which is put for the constant x.
func bound(t api.Term, x string, deep int) api.Term {
	switch {
	case t.Form == api.TVar && t.N >= deep:
		return variable(t.N + 1)
	case t.Form == api.TConst && t.Name == x:
		return variable(deep)
	}
	kids := t.Kids
	t.Kids = nil
	for i, k := range kids {
		below := deep
		if i == 1 && (t.Form == api.TPi || t.Form == api.TLam || t.Form == api.TSigma) {
			below++
		}
		t.Kids = append(t.Kids, bound(k, x, below))
	}
	return t
}

func pair(a, b api.Term) api.Term {
	return of(api.TPair, of(api.TSigma, c("Nat"), c("Nat")), a, b)
}

func fst(t api.Term) api.Term { return of(api.TFst, t) }

func snd(t api.Term) api.Term { return of(api.TSnd, t) }

// high is a term of that height, with t at its bottom.
func high(n int, t api.Term) api.Term {
	for range n - 1 {
		t = fst(t)
	}
	return t
}

// wide is a term of that many parts (an odd number), with t in each leaf.
func wide(parts int, t api.Term) api.Term {
	if parts == 1 {
		return t
	}
	left := (parts-1)/2 | 1
	return app(wide(left, t), wide(parts-1-left, t))
}

// id is the function that answers what it is given; by is t by one step.
func id() api.Term { return lam("x", c("x")) }

func by(t api.Term) api.Term { return app(id(), t) }

func natElim(z, s, x api.Term) api.Term {
	return at("Nat.elim", zeros(1), lam("_", c("Nat")), z, s, x)
}

func number(n int) api.Term {
	t := c("zero")
	for range n {
		t = c("suc", t)
	}
	return t
}

// twice is 2^n times x, by one step for each doubling.
func twice(n int, x api.Term) api.Term {
	for range n {
		x = app(lam("x", c("f", c("x"), c("x"))), x)
	}
	return x
}

// endless answers a term that comes to what whole makes of it: a body in which "x x" is the term again.
func endless(body api.Term) api.Term {
	f := bind(api.TLam, "x", c("Nat"), body)
	return app(f, f)
}

func self() api.Term { return app(c("x"), c("x")) }

func family(name string, levels, params int, ty api.Term, ctors ...api.Ctor) api.Decl {
	return api.Decl{Kind: api.DData, Name: name, Levels: levels, Params: params, Type: ty, Ctors: ctors}
}

func ctor(name string, ty api.Term) api.Ctor { return api.Ctor{Name: name, Type: ty} }

func def(name string, levels int, value api.Term) api.Decl {
	return api.Decl{Kind: api.DDef, Name: name, Levels: levels, Type: set(), Value: value}
}

func nat() api.Decl {
	return family("Nat", 0, 0, set(), ctor("zero", c("Nat")), ctor("suc", arrow(c("Nat"), c("Nat"))))
}

func eq() api.Decl {
	s, l := sort(param(0, 0)), []api.Level{param(0, 0)}
	refl := hidden(pi("A", s, hidden(pi("a", c("A"), at("Eq", l, c("A"), c("a"), c("a"))))))
	return family("Eq", 1, 2, pi("A", s, pi("a", c("A"), arrow(c("A"), s))), ctor("refl", refl))
}

// w is well-founded trees: what the eliminator comes to at one has a λ.
func w() api.Decl {
	over := func(t api.Term) api.Term {
		return pi("A", set(), pi("B", arrow(c("A"), set()), t))
	}
	tree := c("W", c("A"), c("B"))
	return family("W", 0, 2, over(set()), ctor("sup", over(pi("a", c("A"), arrow(arrow(app(c("B"), c("a")), tree), tree)))))
}

// plus goes by its first argument.
func plus() api.Decl {
	return def("plus", 0, lam("m n", natElim(c("n"), lam("k r", c("suc", c("r"))), c("m"))))
}

func signature(t testing.TB, more ...api.Decl) *sig.Sig {
	t.Helper()
	poly := bind(api.TLam, "A", sort(param(0, 0)), bind(api.TLam, "x", c("A"), c("x")))
	axiom := func(name string, levels int) api.Decl {
		return api.Decl{Kind: api.DAxiom, Name: name, Levels: levels, Type: set()}
	}
	all := []api.Decl{nat(), eq(), w(), plus(), def("id", 1, poly), def("one", 0, c("suc", c("zero"))), def("one'", 0, c("suc", c("zero"))), def("type", 2, sort(api.Level{Vars: []api.LVar{{Var: 0}, {Var: 1, Add: 2}}})),
		def("sort", 1, sort(param(0, 0))), def("loop", 0, c("loop")), axiom("a", 0), axiom("b", 0), axiom("f", 0), axiom("p", 0), axiom("k", 2)}
	s := sig.New()
	for _, d := range append(all, more...) {
		if e := s.Put(d); e != api.OK {
			t.Fatalf("%s: %v", d.Name, e)
		}
	}
	return s
}

// mapped is t with a change made at each part, the kids first.
func mapped(t api.Term, change func(api.Term) api.Term) api.Term {
	kids := t.Kids
	t.Kids = nil
	for _, k := range kids {
		t.Kids = append(t.Kids, mapped(k, change))
	}
	return change(t)
}
