package data_test

import (
	"math/rand"
	"slices"
	"strconv"

	"telamon/api"
	"telamon/level"
	"telamon/term"
)

// maker makes families at random: those that are well made, and others that nearly are. All variables are written as constants, until they are bound.
type maker struct {
	*rand.Rand
	names int
}

// named is a variable, and its type.
type named struct {
	name string
	ty   api.Term
}

func (m *maker) name() string {
	m.names++
	return "x" + strconv.Itoa(m.names)
}

// plan is what a family is made from.
type plan struct {
	levels          int
	params, indices []named
	sort            api.Level
}

// family answers one with up to three constructors; wild tells how many of a hundred parts are such as may be refused.
func (m *maker) family(wild int) api.Decl {
	p := plan{levels: m.Intn(3)}
	for range m.Intn(3) {
		p.params = append(p.params, named{m.name(), m.telescope(p, p.params)})
	}
	for range m.Intn(3) {
		p.indices = append(p.indices, named{m.name(), m.telescope(p, slices.Concat(p.params, p.indices))})
	}
	p.sort = m.level(p)
	d := family("D", p.levels, len(p.params), over(slices.Concat(p.params, p.indices), sort(p.sort)))
	for k := range m.Intn(4) {
		d.Ctors = append(d.Ctors, ctor("k"+strconv.Itoa(k), m.ctor(p, wild)))
	}
	return d
}

func over(l []named, t api.Term) api.Term {
	for _, x := range slices.Backward(l) {
		t = pi(x.name, x.ty, t)
	}
	return t
}

// level is one of those that there may be.
func (m *maker) level(p plan) api.Level {
	if p.levels > 0 && m.Intn(2) == 0 {
		return param(m.Intn(p.levels), m.Intn(2))
	}
	return api.Level{N: m.Intn(3)}
}

// telescope is the type of a param or an index.
func (m *maker) telescope(p plan, env []named) api.Term {
	switch m.Intn(6) {
	case 0:
		return sort(m.level(p))
	case 1, 2:
		return set(0)
	case 3:
		return m.small(env, 2)
	}
	return c("Nat")
}

// some answers a variable of that type.
func (m *maker) some(env []named, ty api.Term) (api.Term, bool) {
	var all []api.Term
	for _, x := range env {
		if term.Same(x.ty, ty) {
			all = append(all, c(x.name))
		}
	}
	if len(all) == 0 {
		return api.Term{}, false
	}
	return all[m.Intn(len(all))], true
}

// small answers a type in Set 0.
func (m *maker) small(env []named, parts int) api.Term {
	if x, ok := m.some(env, set(0)); ok && m.Intn(3) == 0 {
		return x
	}
	if parts <= 1 {
		return []api.Term{c("Nat"), c("N")}[m.Intn(2)]
	}
	half := parts / 2
	switch m.Intn(6) {
	case 0:
		return c("Eq0", m.number(env, half), m.number(env, half))
	case 1:
		return c("Vec", m.small(env, half), m.number(env, half))
	case 2:
		return c("Arity", m.number(env, half))
	case 3:
		return sigma("", m.small(env, half), m.small(env, half))
	case 4:
		return at("id", levels(1), set(0), m.small(env, parts-1))
	}
	return arrow(m.small(env, half), m.small(env, half))
}

func (m *maker) number(env []named, parts int) api.Term {
	if x, ok := m.some(env, c("Nat")); ok && m.Intn(2) == 0 {
		return x
	}
	switch {
	case parts <= 1:
		return number(m.Intn(3))
	case m.Intn(2) == 0:
		return c("plus", m.number(env, parts/2), m.number(env, parts/2))
	}
	return c("suc", m.number(env, parts-1))
}

// of answers a term of that type.
func (m *maker) of(env []named, ty api.Term) api.Term {
	x, ok := m.some(env, ty)
	switch {
	case ok && m.Intn(3) > 0:
		return x
	case term.Same(ty, c("Nat")):
		return m.number(env, 1+m.Intn(4))
	case term.Same(ty, set(0)):
		return m.small(env, 1+m.Intn(4))
	case ty.Form == api.TSort:
		above, _ := level.Suc(ty.Levels[0], 1)
		return at("any", []api.Level{above}, ty)
	}
	return at("any", levels(0), ty)
}

// instance answers the family at its own params, and at any indices of their types.
func (m *maker) instance(p plan, env []named, idx func(ty api.Term) api.Term) api.Term {
	var by []api.Level
	for i := range p.levels {
		by = append(by, param(i, 0))
	}
	t := at("D", by)
	for _, x := range p.params {
		t = app(t, c(x.name))
	}
	done := map[string]api.Term{}
	for _, x := range p.indices {
		value := idx(put1(x.ty, done))
		done[x.name] = value
		t = app(t, value)
	}
	return t
}

// put1 is t with terms for some of its constants. (What they are has no variables that are counted.)
func put1(t api.Term, by map[string]api.Term) api.Term {
	return mapped(t, func(x api.Term) api.Term {
		if y, ok := by[x.Name]; ok && x.Form == api.TConst {
			return y
		}
		return x
	})
}

// ctor answers the type of a constructor.
func (m *maker) ctor(p plan, wild int) api.Term {
	env := slices.Clone(p.params)
	idx := func(ty api.Term) api.Term {
		if m.Intn(100) < wild/2 && term.Same(ty, set(0)) {
			return arrow(c("Nat"), m.instance(p, env, func(ty api.Term) api.Term { return m.of(env, ty) }))
		}
		return m.of(env, ty)
	}
	for range m.Intn(4) {
		env = append(env, named{m.name(), m.arg(p, env, idx, wild)})
	}
	return over(env, m.instance(p, env, idx))
}

// arg answers the type of an argument.
func (m *maker) arg(p plan, env []named, idx func(api.Term) api.Term, wild int) api.Term {
	own := m.instance(p, env, idx)
	if m.Intn(100) < wild {
		return []api.Term{
			arrow(own, own), arrow(own, c("Nat")), sigma("", own, c("Nat")), arrow(c("Nat"), arrow(c("Nat"), own), own),
			at("List", []api.Level{p.sort}, own), app(lam("X", sort(p.sort), c("X")), own), mapped(own, m.otherLevels), mapped(own, m.otherParams(p)),
			set(m.Intn(3)), sort(m.level(p)), arrow(set(0), own), at("U", levels(0)), at("any", levels(1), at("U", levels(0))),
		}[m.Intn(13)]
	}
	switch m.Intn(5) {
	case 0, 1:
		return own
	case 2:
		return pi("", m.small(env, 2), own)
	}
	if x := p.params; len(x) > 0 && m.Intn(3) == 0 && x[0].ty.Form == api.TSort {
		return c(x[0].name)
	}
	return m.small(env, 1+m.Intn(5))
}

func (m *maker) otherLevels(t api.Term) api.Term {
	if t.Name != "D" || len(t.Levels) == 0 {
		return t
	}
	t.Levels = slices.Clone(t.Levels)
	t.Levels[m.Intn(len(t.Levels))] = api.Level{N: m.Intn(2)}
	return t
}

func (m *maker) otherParams(p plan) func(api.Term) api.Term {
	return func(t api.Term) api.Term {
		for _, x := range p.params {
			if t.Name == x.name {
				return m.of(p.params, x.ty)
			}
		}
		return t
	}
}

// spoilt answers d with one part of one of its terms changed.
func (m *maker) spoilt(d api.Decl) api.Decl {
	var parts []api.Term
	gather := func(t api.Term) api.Term {
		parts = append(parts, t)
		return t
	}
	all(d, gather)
	at, now := m.Intn(len(parts)), 0
	return all(d, func(t api.Term) api.Term {
		if now++; now-1 != at {
			return t
		}
		return m.other(t, parts[m.Intn(len(parts))], d.Levels)
	})
}

func (m *maker) other(t, some api.Term, many int) api.Term {
	leaves := []api.Term{variable(m.Intn(4)), c("zero"), c("Nat"), set(m.Intn(2)), c("D"), c("k0"), c("nothing"), meta(0), sort(param(0, 0)), at("D.elim", levels(0)), c("suc")}
	switch m.Intn(5) {
	case 0:
		return some
	case 1:
		return app(t, some)
	case 2:
		if t.Form == api.TVar {
			return variable(t.N + 1)
		}
	}
	return leaves[m.Intn(len(leaves))]
}
