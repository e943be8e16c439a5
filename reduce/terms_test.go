package reduce_test

import (
	"slices"
	"strings"
	"testing"

	"telamon/api"
	"telamon/sig"
)

func variable(n int) api.Term { return api.Term{Form: api.TVar, N: n} }

func meta(n int) api.Term { return api.Term{Form: api.TMeta, N: n} }

func sort(l api.Level) api.Term { return api.Term{Form: api.TSort, Levels: []api.Level{l}} }

func set() api.Term { return sort(api.Level{}) }

func param(n, add int) api.Level { return api.Level{Vars: []api.LVar{{Var: n, Add: add}}} }

// own is the level parameters 0 to n - 1; zeros is n times the level 0.
func own(n int) []api.Level {
	var l []api.Level
	for i := range n {
		l = append(l, param(i, 0))
	}
	return l
}

func zeros(n int) []api.Level { return make([]api.Level, n) }

func of(form int, kids ...api.Term) api.Term { return api.Term{Form: form, Kids: kids} }

func hidden(t api.Term) api.Term {
	t.Hid = true
	return t
}

func app(f api.Term, args ...api.Term) api.Term {
	for _, a := range args {
		f = of(api.TApp, f, a)
	}
	return f
}

// c is the constant of that name, without levels, applied to args; at is the same with levels.
func c(name string, args ...api.Term) api.Term { return at(name, nil, args...) }

func at(name string, levels []api.Level, args ...api.Term) api.Term {
	return app(api.Term{Form: api.TConst, Name: name, Levels: levels}, args...)
}

// bind is a binder in whose second kid the constant x stands for the variable: the tests write by names what the program tells by indices.
func bind(form int, x string, domain, body api.Term) api.Term {
	return of(form, domain, bound(body, x, 0))
}

func pi(x string, domain, codomain api.Term) api.Term { return bind(api.TPi, x, domain, codomain) }

func arrow(domain, codomain api.Term) api.Term { return pi("", domain, codomain) }

// lam is a λ for each of the names, all of one domain.
func lam(names string, domain, body api.Term) api.Term {
	for _, x := range slices.Backward(strings.Fields(names)) {
		body = bind(api.TLam, x, domain, body)
	}
	return body
}

// bound is t in the scope of one variable more, which is put for the constant x.
func bound(t api.Term, x string, deep int) api.Term {
	switch {
	case t.Form == api.TVar && t.N >= deep:
		return variable(t.N + 1)
	case t.Form == api.TConst && t.Name == x:
		return variable(deep)
	}
	kids := t.Kids
	t.Kids = nil
	for i, k := range kids {
		below := deep
		if i == 1 && (t.Form == api.TPi || t.Form == api.TLam || t.Form == api.TSigma) {
			below++
		}
		t.Kids = append(t.Kids, bound(k, x, below))
	}
	return t
}

func pair(a, b api.Term) api.Term {
	return of(api.TPair, of(api.TSigma, c("Nat"), c("Nat")), a, b)
}

func fst(t api.Term) api.Term { return of(api.TFst, t) }

func snd(t api.Term) api.Term { return of(api.TSnd, t) }

func times[T any](n int, x T) []T {
	l := make([]T, n)
	for i := range l {
		l[i] = x
	}
	return l
}

// high is a term of that height, with t at its bottom.
func high(n int, t api.Term) api.Term {
	for range n - 1 {
		t = fst(t)
	}
	return t
}

// wide is a term of that many parts (an odd number), with t in each leaf.
func wide(parts int, t api.Term) api.Term {
	if parts == 1 {
		return t
	}
	left := (parts-1)/2 | 1
	return app(wide(left, t), wide(parts-1-left, t))
}

func family(name string, levels, params int, ty api.Term, ctors ...api.Ctor) api.Decl {
	return api.Decl{Kind: api.DData, Name: name, Levels: levels, Params: params, Type: ty, Ctors: ctors}
}

func ctor(name string, ty api.Term) api.Ctor { return api.Ctor{Name: name, Type: ty} }

func def(name string, levels int, value api.Term) api.Decl {
	return api.Decl{Kind: api.DDef, Name: name, Levels: levels, Type: set(), Value: value}
}

func nat() api.Decl {
	return family("Nat", 0, 0, set(), ctor("zero", c("Nat")), ctor("suc", arrow(c("Nat"), c("Nat"))))
}

func vec() api.Decl {
	cons := pi("A", set(), pi("n", c("Nat"), arrow(c("A"), arrow(c("Vec", c("A"), c("n")), c("Vec", c("A"), c("suc", c("n")))))))
	return family("Vec", 0, 1, pi("A", set(), arrow(c("Nat"), set())), ctor("nil", pi("A", set(), c("Vec", c("A"), c("zero")))), ctor("cons", cons))
}

func eq() api.Decl {
	s, l := sort(param(0, 0)), own(1)
	refl := hidden(pi("A", s, hidden(pi("a", c("A"), at("Eq", l, c("A"), c("a"), c("a"))))))
	return family("Eq", 1, 2, pi("A", s, pi("a", c("A"), arrow(c("A"), s))), ctor("refl", refl))
}

func bot() api.Decl { return family("Bot", 0, 0, set()) }

// w is well-founded trees: of two level parameters, with a recursive argument that is a function from what hangs on the params and on an argument.
func w() api.Decl {
	l, top := own(2), sort(api.Level{Vars: []api.LVar{{Var: 0}, {Var: 1}}})
	over := func(t api.Term) api.Term {
		return pi("A", sort(param(0, 0)), pi("B", arrow(c("A"), sort(param(1, 0))), t))
	}
	tree := at("W", l, c("A"), c("B"))
	return family("W", 2, 2, over(top), ctor("sup", over(pi("a", c("A"), arrow(arrow(app(c("B"), c("a")), tree), tree)))))
}

// acc is what can be come to by R: its recursive argument's type has two zs, of which the index hangs on the first.
func acc() api.Decl {
	over := func(t api.Term) api.Term {
		return pi("A", set(), pi("R", arrow(c("A"), arrow(c("A"), set())), t))
	}
	below := pi("y", c("A"), arrow(app(c("R"), c("y"), c("x")), c("Acc", c("A"), c("R"), c("y"))))
	return family("Acc", 0, 2, over(arrow(c("A"), set())), ctor("acc", over(pi("x", c("A"), arrow(below, c("Acc", c("A"), c("R"), c("x")))))))
}

// tree has recursive arguments among others, and two constructors without any.
func tree() api.Decl {
	t, n := c("Tree"), c("Nat")
	node := arrow(t, pi("n", n, arrow(arrow(n, arrow(c("Eq", n, c("n"), c("n")), t)), arrow(t, t))))
	return family("Tree", 0, 0, set(), ctor("leaf", t), ctor("node", node), ctor("box", arrow(n, t)))
}

// lev has a recursive argument whose zs name the levels, and one whose idx does.
func lev() api.Decl {
	end := func(i api.Term) api.Term { return at("Lev", own(2), i) }
	both := sort(api.Level{Vars: []api.LVar{{Var: 0, Add: 1}, {Var: 1}}})
	k := arrow(arrow(both, end(set())), arrow(end(sort(param(1, 3))), end(set())))
	return family("Lev", 2, 0, arrow(sort(api.Level{N: 9}), set()), ctor("stop", end(set())), ctor("go", k))
}

// plus goes by its first argument.
func plus() api.Decl {
	n := c("Nat")
	return def("plus", 0, lam("m n", n, natElim(c("n"), lam("k r", n, c("suc", c("r"))), c("m"))))
}

func natElim(z, s, x api.Term) api.Term {
	return at("Nat.elim", zeros(1), lam("_", c("Nat"), c("Nat")), z, s, x)
}

func number(n int) api.Term {
	t := c("zero")
	for range n {
		t = c("suc", t)
	}
	return t
}

// id is the function that answers what it is given.
func id() api.Term { return lam("x", c("Nat"), c("x")) }

func signature(t testing.TB, more ...api.Decl) *sig.Sig {
	t.Helper()
	poly := lam("A", sort(param(0, 0)), lam("x", c("A"), c("x")))
	two := sort(api.Level{N: 4, Vars: []api.LVar{{Var: 0, Add: 0}, {Var: 1, Add: 2}}})
	all := []api.Decl{nat(), vec(), eq(), bot(), w(), acc(), tree(), lev(), plus(),
		def("id", 1, poly), def("two", 2, pi("A", two, c("A"))), def("one", 0, c("suc", c("zero"))), def("twice", 0, lam("f x", c("Nat"), app(c("f"), app(c("f"), c("x"))))),
		def("loop", 0, c("loop")), {Kind: api.DAxiom, Name: "a", Type: c("Nat")}, {Kind: api.DAxiom, Name: "f", Type: arrow(c("Nat"), c("Nat"))}}
	s := sig.New()
	for _, d := range append(all, more...) {
		if e := s.Put(d); e != api.OK {
			t.Fatalf("%s: %v", d.Name, e)
		}
	}
	return s
}

// mapped is t with a change made at each part, the kids first.
func mapped(t api.Term, change func(api.Term) api.Term) api.Term {
	kids := t.Kids
	t.Kids = nil
	for _, k := range kids {
		t.Kids = append(t.Kids, mapped(k, change))
	}
	return change(t)
}
