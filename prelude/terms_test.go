package prelude_test

import "telamon/api"

const much = 100000 // of fuel: more than any test here needs

// The terms of these tests are written by indices, as the chapter's words come out.

func variable(n int) api.Term { return api.Term{Form: api.TVar, N: n} }

// l is the level v0.
func l() api.Level { return api.Level{Vars: []api.LVar{{Var: 0}}} }

func sort(l api.Level) api.Term { return api.Term{Form: api.TSort, Levels: []api.Level{l}} }

func set(n int) api.Term { return sort(api.Level{N: n}) }

func of(form int, kids ...api.Term) api.Term { return api.Term{Form: form, Kids: kids} }

func pi(domain, codomain api.Term) api.Term { return of(api.TPi, domain, codomain) }

func lam(domain, body api.Term) api.Term { return of(api.TLam, domain, body) }

func hidden(t api.Term) api.Term {
	t.Hid = true
	return t
}

func app(f api.Term, args ...api.Term) api.Term {
	for _, a := range args {
		f = of(api.TApp, f, a)
	}
	return f
}

func at(name string, levels ...api.Level) api.Term {
	return api.Term{Form: api.TConst, Name: name, Levels: levels}
}

// eq is the type Eq at the level v0.
func eq(ty, a, b api.Term) api.Term { return app(at("Eq", l()), ty, a, b) }

// parts goes through t and all that is within, t first.
func parts(t *api.Term, look func(*api.Term)) {
	look(t)
	for i := range t.Kids {
		parts(&t.Kids[i], look)
	}
}

// terms goes through all terms of a declaration, and what is within them.
func terms(d *api.Decl, look func(*api.Term)) {
	parts(&d.Type, look)
	parts(&d.Value, look)
	for i := range d.Ctors {
		parts(&d.Ctors[i].Type, look)
	}
}
