package kernel_test

import (
	"math/rand"

	"telamon/api"
	"telamon/conv"
	"telamon/reduce"
	"telamon/sig"
	"telamon/term"
)

// maker makes terms at random: those that have a type, and others that nearly do.
type maker struct {
	*rand.Rand
	s *sig.Sig
}

func lifted(t api.Term, by int) api.Term { return must(term.Lift(t, 0, by)) }

func with(ctx []api.Term, ty api.Term) []api.Term { return append(ctx[:len(ctx):len(ctx)], ty) }

// context answers the types of that many variables.
func (m maker) context(n int) []api.Term {
	var ctx []api.Term
	for range n {
		ctx = with(ctx, m.anyType(ctx, 1+m.Intn(8)))
	}
	return ctx
}

// small answers a type in Set 0, of about that many parts.
func (m maker) small(ctx []api.Term, parts int) api.Term {
	if parts <= 1 {
		if found, ok := m.variable(ctx, set(0)); ok && m.Intn(2) == 0 {
			return found
		}
		return []api.Term{c("Nat"), c("Nat"), c("N"), c("A"), c("Fun"), c("Prod")}[m.Intn(6)]
	}
	half := parts / 2
	switch m.Intn(9) {
	case 0:
		return c("B", m.term(ctx, c("A"), parts-1))
	case 1:
		return c("Eq0", m.term(ctx, c("Nat"), half), m.term(ctx, c("N"), half))
	case 2:
		return c("Vec", m.small(ctx, half), m.term(ctx, c("Nat"), half))
	case 3:
		return c("Arity", m.term(ctx, c("Nat"), min(parts, 4)))
	case 4:
		ty := m.small(ctx, half)
		return of(api.TSigma, ty, m.small(with(ctx, ty), half))
	case 5:
		return m.redex(ctx, set(0), parts)
	case 6:
		ty := m.small(ctx, half)
		a := m.term(ctx, ty, half/2)
		return at("Eq", levels(0), ty, a, m.term(ctx, ty, half/2))
	}
	ty := m.small(ctx, half)
	return m.hids(of(api.TPi, ty, m.small(with(ctx, ty), half)))
}

// anyType answers a type of any universe.
func (m maker) anyType(ctx []api.Term, parts int) api.Term {
	switch m.Intn(9) {
	case 0:
		return set(m.Intn(2))
	case 1:
		return at("U", levels(0))
	case 2:
		return of(api.TPi, set(0), m.anyType(with(ctx, set(0)), parts-1))
	case 3:
		ty := m.anyType(ctx, parts/2)
		return of(api.TSigma, ty, m.anyType(with(ctx, ty), parts/2))
	}
	return m.small(ctx, parts)
}

func (m maker) hids(t api.Term) api.Term {
	t.Hid = m.Intn(5) == 0
	return t
}

// variable answers one of the variables that have that type.
func (m maker) variable(ctx []api.Term, ty api.Term) (api.Term, bool) {
	var all []int
	for i := range ctx {
		if one, e := conv.Conv(m.s, lifted(ctx[len(ctx)-1-i], i+1), ty, 2000); one && e == api.OK {
			all = append(all, i)
		}
	}
	if len(all) == 0 {
		return api.Term{}, false
	}
	return variable(all[m.Intn(len(all))]), true
}

// term answers a term of the type ty.
func (m maker) term(ctx []api.Term, ty api.Term, parts int) api.Term {
	if found, ok := m.variable(ctx, ty); ok && (parts <= 1 || m.Intn(3) == 0) {
		return found
	}
	if parts > 3 && m.Intn(4) == 0 {
		return m.redex(ctx, ty, parts)
	}
	w, e := reduce.Whnf(m.s, ty, 2000)
	if e != api.OK {
		return m.axiom(ctx, ty)
	}
	h := w
	for h.Form == api.TApp {
		h = h.Kids[0]
	}
	switch {
	case w.Form == api.TPi:
		return m.hids(of(api.TLam, w.Kids[0], m.term(with(ctx, w.Kids[0]), w.Kids[1], parts-1)))
	case w.Form == api.TSigma:
		a := m.term(ctx, w.Kids[0], parts/2)
		return of(api.TPair, w, a, m.term(ctx, must(term.Subst(w.Kids[1], 0, a)), parts/2))
	case w.Form == api.TSort && w.Levels[0].N == 0:
		return m.small(ctx, parts)
	case w.Form == api.TSort && w.Levels[0].N == 1:
		return set(0)
	case h.Name == "Nat":
		return m.number(ctx, parts)
	case h.Name == "Eq":
		return m.proof(ctx, w)
	case h.Name == "A":
		return c("a")
	case h.Name == "B":
		return m.hids(app(c("b"), w.Kids[1]))
	}
	return m.axiom(ctx, ty)
}

func (m maker) number(ctx []api.Term, parts int) api.Term {
	n, third := c("Nat"), parts/3
	if parts <= 1 {
		return []api.Term{c("zero"), c("one")}[m.Intn(2)]
	}
	switch m.Intn(5) {
	case 0:
		return c("plus", m.term(ctx, n, parts/2), m.term(ctx, n, parts/2))
	case 1:
		step := m.term(ctx, arrow(n, n, n), third)
		return natElim(0, n, m.term(ctx, n, third), step, m.term(ctx, n, third))
	case 2:
		ty := sigma("x", n, m.small(ctx, third))
		return of(api.TFst, m.term(ctx, ty, parts-1))
	case 3:
		return app(m.term(ctx, c("Fun"), parts/2), m.term(ctx, n, parts/2))
	}
	return c("suc", m.term(ctx, n, parts-1))
}

// proof answers refl, if that is one.
func (m maker) proof(ctx []api.Term, w api.Term) api.Term {
	a, b := w.Kids[0].Kids[1], w.Kids[1]
	if one, e := conv.Conv(m.s, a, b, 2000); one && e == api.OK {
		return at("refl", levels(0), w.Kids[0].Kids[0].Kids[1], a)
	}
	return m.axiom(ctx, w)
}

// axiom answers what every type has.
func (m maker) axiom(ctx []api.Term, ty api.Term) api.Term {
	sort, _, _ := second(m.s, 0, ctx, ty, 2000)
	w, e := reduce.Whnf(m.s, sort, 2000)
	if e != api.OK || w.Form != api.TSort {
		return at("any", levels(0), ty)
	}
	return at("any", w.Levels, ty)
}

// redex answers a term of the type ty that makes a step.
func (m maker) redex(ctx []api.Term, ty api.Term, parts int) api.Term {
	half := parts / 2
	d := m.anyType(ctx, half/2)
	switch m.Intn(3) {
	case 0:
		f := of(api.TLam, d, m.term(with(ctx, d), lifted(ty, 1), half))
		return m.hids(app(f, m.term(ctx, d, half)))
	case 1:
		s := of(api.TSigma, d, lifted(ty, 1))
		return snd(of(api.TPair, s, m.term(ctx, d, half), m.term(ctx, ty, half)))
	}
	s := of(api.TSigma, ty, lifted(d, 1))
	return fst(of(api.TPair, s, m.term(ctx, ty, half), m.term(ctx, d, half)))
}

// parts gathers all parts of t.
func parts(t api.Term) []api.Term {
	all := []api.Term{t}
	for _, k := range t.Kids {
		all = append(all, parts(k)...)
	}
	return all
}

// spoilt answers t with one part changed.
func (m maker) spoilt(t api.Term) api.Term {
	all := parts(t)
	at, now := m.Intn(len(all)), 0
	return mapped(t, func(x api.Term) api.Term {
		if now++; now-1 != at {
			return x
		}
		return m.other(x, all[m.Intn(len(all))])
	})
}

func (m maker) other(x, some api.Term) api.Term {
	leaves := []api.Term{variable(m.Intn(4)), c("zero"), c("Nat"), set(0), c("a"), c("none"), c("any"), meta(0), sort(param(0, 0)), sort(param(2, 0)), at("id", []api.Level{param(1, 1)}), at("id", []api.Level{param(5, 1)}), set(api.MaxLevel), at("Nat.elim", levels(0)), c("suc"), c("plus"), lam("x", c("Nat"), c("x"))}
	if x.Form == api.TSigma {
		x.Kids = []api.Term{some, x.Kids[1]}
		return x
	}
	switch m.Intn(6) {
	case 0:
		return some
	case 1:
		return app(x, some)
	case 2:
		return of(api.TFst+m.Intn(2), x)
	case 3:
		if x.Form == api.TVar {
			return variable(x.N + 1)
		}
	}
	return leaves[m.Intn(len(leaves))]
}

// greatType answers a type that need not be one, and is nearly too great: when it is lifted, when something is put in, when it makes a step.
func (m maker) greatType(binders int) api.Term {
	v, n := variable(m.Intn(binders+1)), c("Nat")
	kind := m.Intn(9)
	if binders > 4 {
		kind = 5 + m.Intn(4)
	}
	switch kind {
	case 0, 1, 2:
		return of(api.TPi, n, m.greatType(binders+1))
	case 3, 4:
		return of(api.TSigma, n, m.greatType(binders+1))
	case 5:
		return chain(470+m.Intn(25), v)
	case 6:
		return app(c("Q"), variable(1<<30-m.Intn(4)), v)
	case 7:
		return app(lam("x", n, of(api.TPi, n, app(c("Q"), c("x"), lifted(v, 1)))), variable(1<<30-m.Intn(4)))
	}
	return app(wide(4001+2*m.Intn(4000)), v, v)
}

// great answers a term whose type is one that is nearly too great.
func (m maker) great(ctx []api.Term) api.Term {
	x, n := variable(m.Intn(len(ctx))), c("Nat")
	args := []api.Term{c("zero"), number(m.Intn(30)), wide(3001 + 2*m.Intn(3000)), c("one")}
	for range m.Intn(6) {
		ty, _, e := second(m.s, 0, ctx, x, 100)
		if e != api.OK {
			return x
		}
		w, _ := reduce.Whnf(m.s, ty, 100)
		switch {
		case m.Intn(4) == 0:
			x = lam("x", n, x)
		case w.Form == api.TPi:
			x = app(x, args[m.Intn(len(args))])
		case w.Form == api.TSigma:
			x = of(api.TFst+m.Intn(2), x)
		}
		if term.Check(x) != api.OK {
			return c("zero")
		}
	}
	return x
}
