package elim

import (
	"slices"

	"telamon/api"
	"telamon/term"
)

// What is built shares no list: each part of what was read off is told in one place as it is, in all others lifted, and so made anew.

// scope is where something is built: deep binders are around it, numbered from the outermost on; places are the numbers, rising, of those that what was read off the family knows of.
type scope struct {
	places []int
	deep   int
}

// known answers the scope with one binder more, of which what was read off knows.
func (s scope) known() scope {
	return scope{append(slices.Clip(s.places), s.deep), s.deep + 1}
}

// unknown answers the scope with one binder more, of which what was read off knows nothing.
func (s scope) unknown() scope {
	return scope{s.places, s.deep + 1}
}

// first answers the scope for what knows of the first n places alone.
func (s scope) first(n int) scope {
	return scope{s.places[:n], s.deep}
}

// tell answers t, which was read off behind as many binders as there are places, as it stands here: the binders that it does not know of have come in between.
func (s scope) tell(t api.Term) api.Term {
	next := 0
	for i, place := range append(slices.Clip(s.places), s.deep) {
		t = lifted(t, len(s.places)-i, place-next)
		next = place + 1
	}
	return t
}

// lifted answers what is no term, if t would become too great, so that the whole is found to be none.
func lifted(t api.Term, from, by int) api.Term {
	if by == 0 {
		return t
	}
	t, _ = term.Lift(t, from, by)
	return t
}

func (s scope) tellAll(l []api.Term) []api.Term { return each(l, s.tell) }

// variable answers the variable of a binder by its number.
func (s scope) variable(place int) api.Term { return variable(s.deep - 1 - place) }

func (s scope) variables(places []int) []api.Term { return each(places, s.variable) }

// over answers a TPi for each of l, which was read off one behind the other, around what body tells behind them.
func (s scope) over(l []api.Term, body func(in scope) api.Term) api.Term {
	if len(l) == 0 {
		return body(s)
	}
	return pi(s.tell(l[0]), s.known().over(l[1:], body))
}

// eliminator answers the type of the family's eliminator, which has all these methods.
func (f family) eliminator(all []ctor) api.Term {
	return scope{}.over(f.params, func(s scope) api.Term {
		return pi(f.motive(s), f.behindMethods(all, s.unknown()))
	})
}

// motive answers the type of P, in the scope of the params.
func (f family) motive(s scope) api.Term {
	result := api.Term{Form: api.TSort, Levels: []api.Level{parameter(f.decl.Levels)}}
	return s.over(f.indices, func(in scope) api.Term {
		return pi(f.applied(in), result)
	})
}

// motivePlace answers the number of P's binder: the params' are ahead of it.
func (f family) motivePlace() int { return len(f.params) }

// behindMotive answers the scope of the params and P.
func (f family) behindMotive() scope {
	s := scope{}
	for range f.params {
		s = s.known()
	}
	return s.unknown()
}

// behindMethods answers the rest of the eliminator's type, from these methods on.
func (f family) behindMethods(rest []ctor, s scope) api.Term {
	if len(rest) > 0 {
		return pi(f.method(rest[0], s), f.behindMethods(rest[1:], s.unknown()))
	}
	return s.over(f.indices, func(in scope) api.Term {
		x, end := in.deep, in.unknown()
		ahead := end.variables(in.places[len(f.params):])
		return pi(f.applied(in), apply(end.variable(f.motivePlace()), append(ahead, end.variable(x))...))
	})
}

// applied answers D params indices, where all these are variables.
func (f family) applied(s scope) api.Term {
	return apply(f.own(f.decl.Name), s.variables(s.places)...)
}

// method answers the type of c's method, in a scope whose places are the params'.
func (f family) method(c ctor, s scope) api.Term {
	return s.over(c.args, func(in scope) api.Term { return f.behindArgs(c, c.rec, in) })
}

// behindArgs answers the rest of the type of c's method, from these recursive arguments' hypotheses on.
func (f family) behindArgs(c ctor, rest []recursive, s scope) api.Term {
	if len(rest) > 0 {
		return pi(f.hypothesis(rest[0], s), f.behindArgs(c, rest[1:], s.unknown()))
	}
	built := apply(f.own(c.name), s.variables(s.places)...)
	return apply(s.variable(f.motivePlace()), append(s.tellAll(c.result), built)...)
}

// hypothesis answers (zs) -> P idx (a zs), in a scope whose places are those of params and args.
func (f family) hypothesis(r recursive, s scope) api.Term {
	ahead := len(f.params) + r.arg
	a := s.places[ahead]
	return s.first(ahead).over(r.zs, func(in scope) api.Term {
		part := apply(in.variable(a), in.variables(in.places[ahead:])...)
		return apply(in.variable(f.motivePlace()), append(in.tellAll(r.idx), part)...)
	})
}

func pi(domain, codomain api.Term) api.Term {
	return api.Term{Form: api.TPi, Kids: []api.Term{domain, codomain}}
}

func apply(f api.Term, args ...api.Term) api.Term {
	for _, a := range args {
		f = api.Term{Form: api.TApp, Kids: []api.Term{f, a}}
	}
	return f
}

func each[A, B any](l []A, tell func(A) B) []B {
	var out []B
	for _, x := range l {
		out = append(out, tell(x))
	}
	return out
}
