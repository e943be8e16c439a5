package reduce

import (
	"slices"

	"telamon/api"
	"telamon/tele"
	"telamon/term"
)

// rule answers what the eliminator comes to at the constructor k, in the scope of params, P, methods and the constructor's args.
func (c *meaning) rule(k int) *part {
	if c.rules[k] == nil {
		r := ruler{c.Term, c.family, c.family.ctor(k)}
		c.rules[k] = read(r.rule(k))
	}
	return c.rules[k]
}

// ruler makes the rule of one constructor.
type ruler struct {
	eliminator api.Term
	*family
	*ctor
}

// rule answers the constructor's method, applied to its args, and to what the eliminator comes to at each recursive one.
func (r ruler) rule(k int) api.Term {
	all := r.fixed() + len(r.args)
	t := apply(variables(all, r.params+1+k, 1)[0], variables(all, r.fixed(), len(r.args))...)
	for _, a := range r.rec {
		t = apply(t, r.hypothesis(a))
	}
	return t
}

// hypothesis answers λ zs. D.elim levels params P methods idx (a zs), for the argument a of the type (zs) -> D params idx.
func (r ruler) hypothesis(a int) api.Term {
	zs, idx := r.opened(a)
	all := r.fixed() + len(r.args) + len(zs)
	t := apply(r.eliminator, variables(all, 0, r.fixed())...)
	t = apply(t, idx...)
	t = apply(t, apply(variables(all, r.fixed()+a, 1)[0], variables(all, all-len(zs), len(zs))...))
	for _, z := range slices.Backward(zs) {
		t = api.Term{Form: api.TLam, Kids: []api.Term{z, t}}
	}
	return t
}

// opened answers zs and idx of the recursive argument a, by the eliminator's levels, in the scope of the rule. Behind the params P and the methods have come in, behind the args ahead of a the others.
func (r ruler) opened(a int) (zs, idx []api.Term) {
	t := byLevels(r.args[a], r.eliminator.Levels)
	t = lifted(t, a, r.fixed()-r.params)
	t = lifted(t, 0, len(r.args)-a)
	n := 0
	for x := t; x.Form == api.TPi; x = x.Kids[1] {
		n++
	}
	zs, _, t, _ = tele.Split(t, n)
	_, idx, _ = tele.Spine(t)
	return zs, idx[r.params:]
}

// lifted is term.Lift of a type in a signature: it has no free variable that could become too great.
func lifted(t api.Term, from, by int) api.Term {
	t, _ = term.Lift(t, from, by)
	return t
}

// variables answers n variables, from the one on that is bound by the binder first of all, of which the outermost is 0.
func variables(all, first, n int) []api.Term {
	var out []api.Term
	for i := range n {
		out = append(out, api.Term{Form: api.TVar, N: all - 1 - first - i})
	}
	return out
}

func apply(f api.Term, args ...api.Term) api.Term {
	for _, a := range args {
		f = api.Term{Form: api.TApp, Kids: []api.Term{f, a}}
	}
	return f
}
