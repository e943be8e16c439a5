package reduce_test

import (
	"telamon/api"
	"telamon/elim"
	"telamon/sig"
	"telamon/tele"
	"telamon/term"
)

// naive computes as the chapter says it, by terms that are written out at each step: nothing is shared, so that a step which is made again is counted again. It gives up by a panic with an Errno.
type naive struct {
	s           *sig.Sig
	steps, most int
}

// second answers what Whnf (or Normal) must tell, and how many steps it took; ErrFuel, if these would be more than most.
func second(s *sig.Sig, t api.Term, normal bool, most int) (out api.Term, steps int, e api.Errno) {
	n := &naive{s: s, most: most}
	defer func() {
		steps = n.steps
		if why := recover(); why != nil {
			out, e = api.Term{}, why.(api.Errno)
		}
	}()
	if normal {
		return n.normal(t), n.steps, api.OK
	}
	return n.whnf(t), n.steps, api.OK
}

// must answers what a lower layer tells; whatever it refuses has become too great.
func must(t api.Term, e api.Errno) api.Term {
	if e != api.OK || term.Check(t) != api.OK {
		panic(api.ErrLong)
	}
	return t
}

// step counts one step, ahead of what it makes.
func (n *naive) step() {
	if n.steps++; n.steps > n.most {
		panic(api.ErrFuel)
	}
}

func spine(t api.Term) (api.Term, []api.Term) {
	var apps []api.Term
	for ; t.Form == api.TApp; t = t.Kids[0] {
		apps = append([]api.Term{t}, apps...)
	}
	return t, apps
}

// row is f applied as apps were, from the place from on.
func row(f api.Term, apps []api.Term, from int) api.Term {
	for _, a := range apps[from:] {
		f = api.Term{Form: api.TApp, Hid: a.Hid, Kids: []api.Term{f, a.Kids[1]}}
	}
	return f
}

func (n *naive) whnf(t api.Term) api.Term {
	for {
		next, ok := n.next(t)
		if !ok {
			return t
		}
		t = must(next, api.OK)
	}
}

// next answers the term one step further.
func (n *naive) next(t api.Term) (api.Term, bool) {
	h, apps := spine(t)
	switch {
	case h.Form == api.TLam && len(apps) > 0:
		n.step()
		return row(must(term.Subst(h.Kids[1], 0, apps[0].Kids[1])), apps, 1), true
	case h.Form == api.TFst || h.Form == api.TSnd:
		if p := n.whnf(h.Kids[0]); p.Form == api.TPair {
			n.step()
			return row(p.Kids[h.Form-api.TFst+1], apps, 0), true
		}
	case h.Form == api.TConst:
		d, kind := n.s.Get(h.Name)
		if kind == 2 && len(h.Levels) == d.Levels {
			n.step()
			return row(must(term.Levels(d.Value, h.Levels)), apps, 0), true
		}
		if kind == 5 {
			return n.iota(d, h, apps)
		}
	}
	return t, false
}

func (n *naive) iota(d api.Decl, h api.Term, apps []api.Term) (api.Term, bool) {
	params, indices, _, e := elim.Parts(d)
	fixed := len(params) + 1 + len(d.Ctors)
	at := fixed + len(indices)
	if e != api.OK || len(h.Levels) != d.Levels+1 || len(apps) <= at || len(d.Ctors) == 0 {
		return api.Term{}, false
	}
	c, built := spine(n.whnf(apps[at].Kids[1]))
	_, kind := n.s.Get(c.Name)
	of, _ := n.s.Get(c.Name)
	if c.Form != api.TConst || kind < 4 || kind == 5 || of.Name != d.Name {
		return api.Term{}, false
	}
	args, rec, _, e := elim.Ctor(d, (kind-4)/2)
	if e != api.OK || len(built) != len(params)+len(args) {
		return api.Term{}, false
	}
	n.step()
	out := apps[len(params)+1+(kind-4)/2].Kids[1]
	for _, a := range built[len(params):] {
		out = app(out, a.Kids[1])
	}
	for _, j := range rec {
		scope := append(kids(apps[:len(params)]), kids(built[len(params):len(params)+j])...)
		ty := filled(must(term.Levels(args[j], h.Levels)), scope)
		out = app(out, hypothesis(h, kids(apps[:fixed]), len(params), ty, built[len(params)+j].Kids[1]))
	}
	return row(out, apps, at+1), true
}

func kids(apps []api.Term) []api.Term {
	var out []api.Term
	for _, a := range apps {
		out = append(out, a.Kids[1])
	}
	return out
}

// filled is t with scope for as many of its variables, one after the other.
func filled(t api.Term, scope []api.Term) api.Term {
	for i := len(scope) - 1; i >= 0; i-- {
		t = must(term.Subst(t, 0, must(term.Lift(scope[i], 0, i))))
	}
	return t
}

// hypothesis is λ zs. h fixed idx (a zs), where a's type ty is (zs) -> D params idx.
func hypothesis(h api.Term, fixed []api.Term, params int, ty, a api.Term) api.Term {
	if ty.Form == api.TPi {
		var deeper []api.Term
		for _, f := range fixed {
			deeper = append(deeper, must(term.Lift(f, 0, 1)))
		}
		return of(api.TLam, ty.Kids[0], hypothesis(h, deeper, params, ty.Kids[1], app(must(term.Lift(a, 0, 1)), variable(0))))
	}
	_, idx, _ := tele.Spine(ty)
	return app(app(app(h, fixed...), idx[params:]...), a)
}

func (n *naive) normal(t api.Term) api.Term {
	h, apps := spine(n.whnf(t))
	out := api.Term{Form: h.Form, N: h.N, Hid: h.Hid, Name: h.Name, Levels: h.Levels}
	for _, k := range h.Kids {
		out.Kids = append(out.Kids, n.normal(k))
	}
	for _, a := range apps {
		out = api.Term{Form: api.TApp, Hid: a.Hid, Kids: []api.Term{out, n.normal(a.Kids[1])}}
	}
	return must(out, api.OK)
}
