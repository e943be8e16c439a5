package kernel_test

import (
	"testing"

	"telamon/api"
	"telamon/kernel"
	"telamon/sig"
	"telamon/term"
)

// in is a term in a context, and what Infer must tell of it.
type in struct {
	ctx []api.Term
	t   api.Term
	ty  api.Term
	e   api.Errno
}

func is(t, ty api.Term, ctx ...api.Term) in { return in{ctx, t, ty, api.OK} }

func not(e api.Errno, t api.Term, ctx ...api.Term) in { return in{ctx, t, api.Term{}, e} }

// told fails, if Infer does not tell just that.
func told(t *testing.T, s *sig.Sig, levels int, what string, x in) {
	t.Helper()
	got, e := kernel.Infer(s, levels, x.ctx, x.t, much)
	if e != x.e || !sameOrNone(got, x.ty) {
		t.Errorf("%s: %v: %s: %s, %v, not %s, %v", what, shows(x.ctx), show(x.t), show(got), e, show(x.ty), x.e)
	}
}

// all fails, if Infer tells otherwise of one of these: as it stands, within two binders, or at the end of a longer context; so do Sort and Check.
func all(t *testing.T, levels int, cases map[string]in) {
	t.Helper()
	s := signature(t)
	for what, x := range cases {
		told(t, s, levels, what, x)
		ahead := in{append([]api.Term{set(0), arrow(variable(0), c("Nat"))}, x.ctx...), x.t, x.ty, x.e}
		if term.Free(x.t) <= len(x.ctx) { // what is bound nowhere would be
			told(t, s, levels, what+", behind two", ahead)
		}
		deep, ty := x.t, x.ty
		for range 2 {
			deep = of(api.TLam, c("Nat"), lifted(deep, 1))
			if x.e == api.OK {
				ty = of(api.TPi, c("Nat"), lifted(ty, 1))
			}
		}
		told(t, s, levels, what+", within two", in{x.ctx, deep, ty, x.e})
		if e := kernel.Check(s, levels, x.ctx, x.t, x.ty, much); x.e == api.OK && e != api.OK {
			t.Errorf("P902: %s: Check: %v", what, e)
		}
		if e := kernel.Check(s, levels, x.ctx, x.t, c("Nat"), much); x.e != api.OK && e != x.e {
			t.Errorf("P902: %s: Check: %v", what, e)
		}
		if l, e := kernel.Sort(s, levels, x.ctx, x.t, much); x.e != api.OK && (e != x.e || l.N != 0 || l.Vars != nil) {
			t.Errorf("P902: %s: Sort: %v, %v", what, l, e)
		}
	}
}

func TestP902Examples(t *testing.T) {
	all(t, 0, map[string]in{
		"the identity":   is(lam("A", set(0), lam("x", c("A"), c("x"))), pi("A", set(0), arrow(c("A"), c("A")))),
		"zero zero":      not(api.ErrPi, c("zero", c("zero"))),
		"Nat.elim":       not(api.ErrLevels, c("Nat.elim")),
		"plus":           is(plus().Value, pi("m", c("Nat"), arrow(c("Nat"), app(nats("_", c("Nat")), c("m"))))),
		"its value's id": is(at("id", levels(0), c("Nat"), number(3)), c("Nat")),
	})
	s := signature(t)
	for _, d := range decls() {
		if l, e := kernel.Sort(s, d.Levels, nil, d.Type, much); e != api.OK {
			t.Errorf("%s: its type: %v, %v", d.Name, l, e)
		}
		if d.Kind == api.DDef {
			if e := kernel.Check(s, d.Levels, nil, d.Value, d.Type, much); e != api.OK {
				t.Errorf("%s: its value: %v", d.Name, e)
			}
		}
		for _, k := range d.Ctors {
			if l, e := kernel.Sort(s, d.Levels, nil, k.Type, much); e != api.OK {
				t.Errorf("%s: its type: %v, %v", k.Name, l, e)
			}
		}
		if d.Kind != api.DData {
			continue
		}
		var own []api.Level
		for i := range d.Levels + 1 {
			own = append(own, param(i, 0))
		}
		ty, e := kernel.Const(s, d.Name+".elim", own)
		if e != api.OK {
			t.Fatalf("%s: its eliminator: %v", d.Name, e)
		}
		if l, e := kernel.Sort(s, d.Levels+1, nil, ty, much); e != api.OK {
			t.Errorf("%s: its eliminator's type: %v, %v", d.Name, l, e)
		}
	}
}

func TestP902Variables(t *testing.T) {
	all(t, 0, map[string]in{
		"the last":            is(variable(0), variable(1), set(0), variable(0)),
		"the first":           is(variable(1), set(0), set(0), variable(0)),
		"further out":         is(variable(2), pi("x", variable(3), variable(4)), set(0), pi("x", variable(0), variable(1)), c("Nat"), c("A")),
		"what is bound there": is(variable(1), pi("x", c("Nat"), c("Eq0", c("x"), variable(2))), c("Nat"), pi("x", c("Nat"), c("Eq0", c("x"), variable(0))), set(3)),
		"as it stands":        is(variable(0), app(lam("x", set(0), c("x")), c("Nat")), app(lam("x", set(0), c("x")), c("Nat"))),
		"a type that is none": is(variable(0), app(c("zero"), meta(4)), app(c("zero"), meta(4))),
		"a level that is not": is(variable(0), sort(param(7, 0)), sort(param(7, 0))),
		"none":                not(api.ErrVar, variable(0)),
		"none behind the end": not(api.ErrVar, variable(2), set(0), variable(0)),
		"the greatest":        not(api.ErrVar, variable(1<<30-2), set(0)),
		"a type's is not":     is(variable(0), variable(8), variable(7)),
		"in its scope":        is(lam("x", variable(0), c("x")), arrow(variable(0), variable(0)), set(0)),
		"a domain is outside": not(api.ErrVar, of(api.TPi, variable(0), c("Nat"))),
		"so is Σ's first":     not(api.ErrVar, of(api.TSigma, variable(0), c("Nat"))),
		"so is a λ's domain":  not(api.ErrVar, of(api.TLam, variable(0), c("Nat"))),
		"two binders":         is(lam("A", set(0), lam("x", c("A"), lam("y", c("A"), c("x")))), pi("A", set(0), arrow(c("A"), c("A"), c("A")))),
	})
	s := signature(t)
	told(t, s, 0, "of 2^30", not(api.ErrVar, variable(1<<30), set(0)))
}

func TestP902Sorts(t *testing.T) {
	v := func(n, add int) api.LVar { return api.LVar{Var: n, Add: add} }
	max3 := func(add int) api.Term {
		return sort(api.Level{N: 5 + add, Vars: []api.LVar{v(0, add), v(1, 2+add)}})
	}
	all(t, 2, map[string]in{
		"0":                 is(set(0), set(1)),
		"3":                 is(set(3), set(4)),
		"the last":          is(set(api.MaxLevel-1), set(api.MaxLevel)),
		"too great":         not(api.ErrLevels, set(api.MaxLevel)),
		"v0":                is(sort(param(0, 0)), sort(param(0, 1))),
		"v1+3":              is(sort(param(1, 3)), sort(param(1, 4))),
		"max":               is(max3(0), max3(1)),
		"v2":                not(api.ErrLevels, sort(param(2, 0))),
		"v1000":             not(api.ErrLevels, sort(param(1000, 0))),
		"v2 of several":     not(api.ErrLevels, sort(api.Level{Vars: []api.LVar{v(0, 0), v(2, 1)}})),
		"an Add too great":  not(api.ErrLevels, sort(param(0, api.MaxLevel))),
		"not its variables": is(variable(0), sort(param(2, 0)), sort(param(2, 0))),
	})
	s := signature(t)
	for _, x := range []struct {
		levels int
		l      api.Level
		e      api.Errno
	}{{0, param(0, 0), api.ErrLevels}, {-1, param(0, 0), api.ErrLevels}, {-1, api.Level{}, api.OK}, {-1 << 63, api.Level{}, api.OK}, {1, param(0, 0), api.OK}, {1<<63 - 1, param(1000, 0), api.OK}, {1000, param(1000, 0), api.ErrLevels}, {1001, param(1000, 0), api.OK}} {
		if _, e := kernel.Infer(s, x.levels, nil, sort(x.l), much); e != x.e {
			t.Errorf("P902: %d levels: %v: %v", x.levels, x.l, e)
		}
	}
}

func TestP902Binders(t *testing.T) {
	for _, form := range []int{api.TPi, api.TSigma} {
		of := func(x string, a, b api.Term) api.Term { return bind(form, x, a, b) }
		all(t, 2, map[string]in{
			"of types":             is(of("", c("Nat"), c("A")), set(0)),
			"dependent":            is(of("x", c("A"), c("B", c("x"))), set(0)),
			"the first is greater": is(of("", set(1), c("Nat")), set(2)),
			"the second":           is(of("", c("Nat"), set(0)), set(1)),
			"both alike":           is(of("", set(0), set(0)), set(1)),
			"of a variable":        is(of("A", sort(param(0, 0)), c("A")), sort(param(0, 1))),
			"of two":               is(of("A", sort(param(0, 0)), sort(param(1, 2))), sort(api.Level{Vars: []api.LVar{{Var: 0, Add: 1}, {Var: 1, Add: 3}}})),
			"hidden":               is(hidden(of("", c("Nat"), c("A"))), set(0)),
			"by a definition":      is(of("x", c("N"), c("Eq0", c("x"), c("one"))), set(0)),
			"a universe by a step": is(of("x", at("U", levels(0)), c("x")), set(1)),
			"its type is one":      is(of("x", variable(0), c("A")), set(0), at("U", levels(0))),
			"and behind":           is(of("x", c("A"), variable(0)), set(0), at("U", levels(0))),
			"no type first":        not(api.ErrSort, of("x", c("zero"), c("Nat"))),
			"no type second":       not(api.ErrSort, of("x", c("Nat"), c("x"))),
			"a function":           not(api.ErrSort, of("x", c("B"), c("Nat"))),
			"wrong first":          not(api.ErrPi, of("x", c("zero", c("zero")), c("x"))),
			"wrong second":         not(api.ErrType, of("x", c("Nat"), c("B", c("x")))),
			"the first one's":      not(api.ErrSort, of("x", c("zero"), c("zero", c("zero")))),
			"a level first":        not(api.ErrLevels, of("x", sort(param(2, 0)), c("zero"))),
		})
	}
	many := func(from, n int) api.Term {
		l := api.Level{}
		for i := range n {
			l.Vars = append(l.Vars, api.LVar{Var: from + i})
		}
		return sort(l)
	}
	s := signature(t)
	if _, e := kernel.Infer(s, 100, nil, arrow(many(0, 32), many(32, 32)), much); e != api.OK {
		t.Errorf("64 variables: %v", e)
	}
	told(t, s, 100, "65 variables", not(api.ErrLevels, arrow(many(0, 32), many(32, 33))))
}

func TestP902Functions(t *testing.T) {
	all(t, 0, map[string]in{
		"λ":                   is(nats("x", c("x")), arrow(c("Nat"), c("Nat"))),
		"hidden":              is(hidden(nats("x", c("x"))), hidden(arrow(c("Nat"), c("Nat")))),
		"one of two hidden":   is(nats("x", hidden(nats("y", c("x")))), arrow(c("Nat"), hidden(arrow(c("Nat"), c("Nat"))))),
		"the domain as it is": is(lam("x", c("N"), c("x")), arrow(c("N"), c("N"))),
		"dependent":           is(lam("x", c("A"), c("b", c("x"))), pi("x", c("A"), c("B", c("x")))),
		"of a type":           is(lam("x", set(0), c("x")), arrow(set(0), set(0))),
		"over a context":      is(lam("x", variable(1), variable(0)), arrow(variable(1), variable(1)), set(0), variable(0)),
		"a pair in one":       is(lam("x", c("A"), snd(variable(0))), arrow(c("A"), c("B", fst(variable(0)))), sigma("x", c("A"), c("B", c("x")))),
		"three": is(lam("x", c("A"), lam("y", c("B", c("x")), lam("z", c("B", c("x")), c("y")))),
			pi("x", c("A"), arrow(c("B", c("x")), c("B", c("x")), c("B", c("x"))))),
		"no type":            not(api.ErrSort, lam("x", c("zero"), c("x"))),
		"no type, and wrong": not(api.ErrSort, lam("x", c("zero"), c("x", c("x")))),
		"a wrong domain":     not(api.ErrType, lam("x", c("B", c("zero")), c("none"))),
		"a wrong body":       not(api.ErrPi, nats("x", c("x", c("x")))),
	})
}

func TestP902Applications(t *testing.T) {
	n := c("Nat")
	arity := func(k int) api.Term { // what Arity comes to within
		return natElim(1, set(0), n, lam("_", n, lam("X", set(0), arrow(n, c("X")))), number(k))
	}
	all(t, 0, map[string]in{
		"suc":                   is(c("suc", c("zero")), n),
		"a constructor's type":  is(c("cons", n, c("zero"), c("one"), c("nil", n)), c("Vec", n, c("suc", c("zero")))),
		"dependent":             is(c("b", c("a")), c("B", c("a"))),
		"the argument as it is": is(c("b", app(lam("x", c("A"), c("x")), c("a"))), c("B", app(lam("x", c("A"), c("x")), c("a")))),
		"of a part":             is(c("b", fst(c("p"))), c("B", fst(c("p")))),
		"under a binder":        is(app(lam("x", n, nats("y", c("hid", c("x")))), c("one")), arrow(n, c("Eq0", c("one"), c("one")))),
		"a λ":                   is(app(nats("x", c("x")), c("zero")), n),
		"too few":               is(c("plus", c("zero")), arrow(n, n)),
		"by a definition":       is(app(variable(0), c("zero")), n, c("Fun")),
		"and further in":        is(app(variable(0), c("a"), c("zero")), n, arrow(c("A"), c("Fun"))),
		"by computing":          is(app(variable(0), c("zero"), c("one")), arity(0), c("Arity", number(2))),
		"its Whnf is told":      is(app(variable(0), c("zero")), arity(1), c("Arity", number(2))),
		"the domain by a step":  is(app(variable(0), c("zero")), n, arrow(c("N"), n)),
		"the argument's":        is(c("suc", variable(0)), n, c("N")),
		"eta":                   is(app(variable(0), lam("x", n, c("plus", c("x")))), n, arrow(arrow(n, c("Fun")), n)),
		"by types alike":        is(c("hid", c("zero")), c("Eq0", c("zero"), c("zero"))),
		"Hids aside":            is(hidden(c("suc", c("zero"))), n),
		"at a level":            is(at("id", levels(1), set(0)), arrow(set(0), set(0))),
		"a proof":               is(at("refl", levels(0), n, c("one")), at("Eq", levels(0), n, c("one"), c("one"))),
		"an eliminator":         is(natElim(0, c("A"), c("a"), lam("k", n, lam("r", c("A"), c("r"))), c("one")), app(nats("_", c("A")), c("one"))),
		"no function":           not(api.ErrPi, c("zero", c("zero"))),
		"too many":              not(api.ErrPi, c("suc", c("zero"), c("zero"))),
		"a pair":                not(api.ErrPi, app(c("p"), c("a"))),
		"a type":                not(api.ErrPi, app(set(0), c("a"))),
		"Arity 0":               not(api.ErrPi, app(variable(0), c("zero")), c("Arity", c("zero"))),
		"Arity of a variable":   not(api.ErrPi, app(variable(0), c("zero")), n, c("Arity", variable(0))),
		"a type applied":        not(api.ErrPi, app(variable(0), c("zero")), app(arrow(n, n), n)),
		"another type":          not(api.ErrType, c("suc", c("a"))),
		"suc suc":               not(api.ErrType, c("suc", c("suc"))),
		"another universe":      not(api.ErrType, at("id", levels(0), set(0))),
		"not cumulative":        not(api.ErrType, at("id", levels(1), n)),
		"a family's index":      not(api.ErrType, c("cons", n, c("one"), c("one"), c("nil", n))),
		"a family's param":      not(api.ErrType, c("cons", c("A"), c("zero"), c("a"), c("nil", n))),
		"what a type binds":     not(api.ErrType, nats("y", lam("z", pi("x", n, c("Eq0", c("x"), c("y"))), app(lam("w", arrow(n, c("Eq0", c("y"), c("y"))), c("w")), c("z"))))),
		"the function first":    not(api.ErrPi, c("zero", c("none"))),
		"and what is wrong":     not(api.ErrConst, c("none", meta(0))),
		"then the argument":     not(api.ErrForm, c("suc", meta(0))),
	})
}

func TestP902Pairs(t *testing.T) {
	n := c("Nat")
	two, dep := sigma("x", n, n), sigma("x", c("A"), c("B", c("x")))
	first := app(lam("x", c("A"), c("x")), c("a"))
	all(t, 0, map[string]in{
		"of numbers":           is(pair(two, c("zero"), c("one")), two),
		"dependent":            is(pair(dep, c("a"), c("b", c("a"))), dep),
		"by a step":            is(pair(dep, first, c("b", c("a"))), dep),
		"the first put in":     is(pair(dep, c("a"), c("b", first)), dep),
		"its type as it is":    is(pair(sigma("x", c("N"), c("N")), c("zero"), c("one")), sigma("x", c("N"), c("N"))),
		"over a context":       is(pair(sigma("x", variable(1), variable(1)), variable(0), variable(0)), sigma("x", variable(1), variable(1)), set(0), variable(0)),
		"in one":               is(pair(sigma("x", two, n), pair(two, c("zero"), c("zero")), c("one")), sigma("x", two, n)),
		"eta":                  is(pair(sigma("x", arrow(n, n), n), nats("x", c("suc", c("x"))), c("zero")), sigma("x", arrow(n, n), n)),
		"no type":              not(api.ErrSort, pair(sigma("x", c("zero"), n), c("zero"), c("zero"))),
		"no type second":       not(api.ErrSort, pair(sigma("x", n, c("x")), c("zero"), c("zero"))),
		"the type first":       not(api.ErrSort, pair(sigma("x", c("zero"), n), c("none"), c("zero"))),
		"another first part":   not(api.ErrType, pair(two, c("a"), c("zero"))),
		"another second part":  not(api.ErrType, pair(two, c("zero"), c("a"))),
		"another one there":    not(api.ErrType, pair(sigma("x", n, c("Eq0", c("x"), c("zero"))), c("one"), c("hid", c("zero")))),
		"a wrong first part":   not(api.ErrPi, pair(two, c("zero", c("zero")), c("none"))),
		"a wrong second part":  not(api.ErrConst, pair(two, c("zero"), c("none"))),
		"the first one is out": not(api.ErrVar, of(api.TPair, two, variable(0), c("zero"))),
	})
}

func TestP902Parts(t *testing.T) {
	n := c("Nat")
	two, dep := sigma("x", n, n), sigma("x", set(0), c("x"))
	pq := c("p")
	all(t, 0, map[string]in{
		"fst p":             is(fst(pq), c("A")),
		"snd p":             is(snd(pq), c("B", fst(pq))),
		"of a variable":     is(snd(variable(0)), fst(variable(0)), dep),
		"of a pair":         is(snd(pair(two, c("zero"), c("one"))), n),
		"of one dependent":  is(snd(pair(dep, n, c("one"))), fst(pair(dep, n, c("one")))),
		"under a binder":    is(snd(variable(0)), arrow(n, c("Eq0", fst(variable(0)), fst(variable(0)))), sigma("x", n, arrow(n, c("Eq0", c("x"), c("x"))))),
		"by a definition":   is(fst(variable(0)), n, c("Prod")),
		"its second":        is(snd(variable(0)), c("Eq0", fst(variable(0)), fst(variable(0))), c("Prod")),
		"as its Whnf is":    is(fst(variable(0)), c("N"), app(lam("X", set(0), sigma("x", c("X"), c("X"))), c("N"))),
		"a type that it is": is(lam("x", fst(variable(0)), c("x")), arrow(fst(variable(0)), fst(variable(0))), dep),
		"no pair":           not(api.ErrSigma, fst(c("zero"))),
		"no pair, snd":      not(api.ErrSigma, snd(c("suc"))),
		"a type of pairs":   not(api.ErrSigma, fst(two)),
		"a wrong one":       not(api.ErrPi, fst(c("zero", c("zero")))),
		"of a part":         not(api.ErrSigma, fst(fst(pq))),
		"a Σ applied":       not(api.ErrSigma, fst(variable(0)), app(two, n)),
	})
}

func TestP902Constants(t *testing.T) {
	n := c("Nat")
	all(t, 2, map[string]in{
		"an axiom":              is(c("a"), c("A")),
		"a definition":          is(c("plus"), arrow(n, n, n)),
		"a family":              is(c("Vec"), arrow(set(0), n, set(0))),
		"a constructor":         is(c("suc"), arrow(n, n)),
		"hidden":                is(c("hid"), hidden(pi("x", n, c("Eq0", c("x"), c("x"))))),
		"by a level":            is(at("id", levels(3)), pi("A", set(3), arrow(c("A"), c("A")))),
		"by a variable":         is(at("id", []api.Level{param(1, 2)}), pi("A", sort(param(1, 2)), arrow(c("A"), c("A")))),
		"by two":                is(at("type", []api.Level{param(1, 0), param(0, 1)}), sort(api.Level{Vars: []api.LVar{{Var: 0, Add: 3}, {Var: 1}}})),
		"its eliminator":        is(at("Nat.elim", levels(2)), pi("P", arrow(n, set(2)), arrow(app(c("P"), c("zero")), pi("n", n, arrow(app(c("P"), c("n")), app(c("P"), c("suc", c("n"))))), pi("x", n, app(c("P"), c("x")))))),
		"nothing":               not(api.ErrConst, c("none")),
		"nothing, with a level": not(api.ErrConst, at("none", []api.Level{param(7, 0)})),
		"no level":              not(api.ErrLevels, c("id")),
		"one more":              not(api.ErrLevels, at("plus", levels(0))),
		"two for one":           not(api.ErrLevels, at("id", levels(0, 0))),
		"no level of elim":      not(api.ErrLevels, c("Nat.elim")),
		"one of Eq.elim":        not(api.ErrLevels, at("Eq.elim", levels(0))),
		"a variable too far":    not(api.ErrLevels, at("id", []api.Level{param(2, 0)})),
		"the second one":        not(api.ErrLevels, at("type", []api.Level{param(0, 0), param(2, 0)})),
		"too great":             not(api.ErrLevels, at("type", levels(0, api.MaxLevel-1))),
		"a meta":                not(api.ErrForm, meta(0)),
		"a meta in a type":      not(api.ErrForm, arrow(n, meta(3))),
	})
	// What Const tells comes ahead of what is said of the levels' variables.
	far := []api.Level{param(9, 0), param(9, 0)}
	s := signature(t, family("Odd", 1, 0, set(0), ctor("odd", n)))
	for what, x := range map[string]in{
		"nothing":         not(api.ErrConst, at("none", far)),
		"no family":       not(api.ErrData, at("Odd.elim", far)),
		"then the levels": not(api.ErrLevels, at("Eq.elim", far)),
	} {
		told(t, s, 1, what, x)
	}
}

func TestP901Const(t *testing.T) {
	n, v0, v1 := c("Nat"), param(0, 0), param(1, 0)
	odd := api.Level{N: 3, Vars: []api.LVar{{Var: 4, Add: 1}, {Var: 0, Add: 9}, {Var: 4, Add: 2}}} // right, not canonical
	normal := api.Level{Vars: []api.LVar{{Var: 0, Add: 9}, {Var: 4, Add: 2}}}
	wrong := []api.Level{{N: -1}, {N: api.MaxLevel + 1}, {Vars: []api.LVar{{Var: -1}}}, {Vars: []api.LVar{{Add: -1}}}, {Vars: []api.LVar{{Var: api.MaxLevel + 1}}}, {Vars: make([]api.LVar, 65)}}
	big := n
	for range 12 {
		big = arrow(big, big)
	}
	s := signature(t,
		family("Odd", 1, 0, set(0), ctor("odd", n)),
		family("Great", 0, 0, set(0), ctor("great", arrow(big, c("Great")))),
		family("Long", 0, 0, set(0), ctor("long", arrow(big, big, c("Long"))), ctor("longer", arrow(big, c("Long")))),
		axiom("free", 0, sort(v0)), axiom("unused", 2, n), axiom("top", 1, sort(param(0, 999))))
	elimOfEq := pi("A", sort(v1), pi("a", c("A"), pi("P", pi("b", c("A"), arrow(at("Eq", []api.Level{v1}, c("A"), c("a"), c("b")), sort(v0))),
		arrow(app(c("P"), c("a"), at("refl", []api.Level{v1}, c("A"), c("a"))), pi("b", c("A"), pi("x", at("Eq", []api.Level{v1}, c("A"), c("a"), c("b")), app(c("P"), c("b"), c("x"))))))))
	for _, x := range []struct {
		name   string
		levels []api.Level
		ty     api.Term
		e      api.Errno
	}{
		{"a", nil, c("A"), api.OK},
		{"a", []api.Level{}, c("A"), api.OK},
		{"any", levels(4), pi("X", set(4), c("X")), api.OK},
		{"any", []api.Level{odd}, pi("X", sort(normal), c("X")), api.OK},
		{"any", []api.Level{param(1000, 0)}, pi("X", sort(param(1000, 0)), c("X")), api.OK},
		{"plus", nil, arrow(n, n, n), api.OK},
		{"U", levels(2), set(3), api.OK},
		{"Nat", nil, set(0), api.OK},
		{"Eq", levels(1), pi("A", set(1), arrow(c("A"), c("A"), set(1))), api.OK},
		{"zero", nil, n, api.OK},
		{"suc", nil, arrow(n, n), api.OK},
		{"refl", levels(1), hidden(pi("A", set(1), hidden(pi("x", c("A"), at("Eq", levels(1), c("A"), c("x"), c("x")))))), api.OK},
		{"cons", nil, vec().Ctors[1].Type, api.OK},
		{"odd", levels(0), n, api.OK},
		{"Odd", levels(0), set(0), api.OK},
		{"unused", levels(0, 7), n, api.OK},
		{"Eq.elim", []api.Level{v1, v0}, elimOfEq, api.OK},
		{"", nil, api.Term{}, api.ErrConst},
		{"none", wrong, api.Term{}, api.ErrConst},
		{"elim", nil, api.Term{}, api.ErrConst},
		{"plus.elim", levels(0), api.Term{}, api.ErrConst},
		{"zero.elim", levels(0), api.Term{}, api.ErrConst},
		{"nat", nil, api.Term{}, api.ErrConst},
		{"Nat.elim", nil, api.Term{}, api.ErrLevels},
		{"Nat.elim", levels(0, 0), api.Term{}, api.ErrLevels},
		{"Eq.elim", levels(0), api.Term{}, api.ErrLevels},
		{"Eq.elim", levels(0, 0, 0), api.Term{}, api.ErrLevels},
		{"Eq", nil, api.Term{}, api.ErrLevels},
		{"refl", levels(0, 0), api.Term{}, api.ErrLevels},
		{"a", levels(0), api.Term{}, api.ErrLevels},
		{"Odd", nil, api.Term{}, api.ErrLevels},
		{"Odd.elim", levels(0), api.Term{}, api.ErrLevels},
		{"Odd.elim", []api.Level{{}, wrong[0]}, api.Term{}, api.ErrLevels},
		{"Odd.elim", levels(0, 0), api.Term{}, api.ErrData},
		{"Great.elim", levels(0), api.Term{}, api.OK},
		{"Long.elim", nil, api.Term{}, api.ErrLevels},
		{"Long.elim", levels(0), api.Term{}, api.ErrLong},
		{"free", nil, api.Term{}, api.ErrLevels},
		{"top", levels(1), set(1000), api.OK},
		{"top", levels(2), api.Term{}, api.ErrLevels},
	} {
		got, e := kernel.Const(s, x.name, x.levels)
		if e != x.e || x.ty.Form != 0 && !term.Same(got, x.ty) || e != api.OK && got.Form != 0 {
			t.Errorf("P901: %s, %v: %s, %v, not %s, %v", x.name, x.levels, show(got), e, show(x.ty), x.e)
		}
	}
	for _, l := range wrong {
		for name, by := range map[string][]api.Level{"any": {l}, "unused": {{}, l}, "Odd": {l}, "Eq.elim": {{}, l}, "refl": {l}} {
			if got, e := kernel.Const(s, name, by); e != api.ErrLevels || got.Form != 0 {
				t.Errorf("P901: %s, %v: %s, %v", name, by, show(got), e)
			}
		}
	}
	if got, e := kernel.Const(nil, "Nat", nil); e != api.ErrConst || got.Form != 0 {
		t.Errorf("P901: of nothing: %s, %v", show(got), e)
	}
}

func TestP902Sort(t *testing.T) {
	s := signature(t)
	for _, x := range []struct {
		ctx []api.Term
		t   api.Term
		l   api.Level
		e   api.Errno
	}{
		{nil, c("Nat"), api.Level{}, api.OK},
		{nil, set(4), api.Level{N: 5}, api.OK},
		{nil, sort(param(1, 1)), param(1, 2), api.OK},
		{nil, arrow(sort(param(0, 0)), sort(param(1, 0))), api.Level{Vars: []api.LVar{{Var: 0, Add: 1}, {Var: 1, Add: 1}}}, api.OK},
		{nil, at("type", []api.Level{{N: 2}, param(0, 1)}), api.Level{N: 0, Vars: []api.LVar{{Var: 0, Add: 3}}}, api.OK},
		{[]api.Term{set(2)}, variable(0), api.Level{N: 2}, api.OK},
		{[]api.Term{at("U", levels(3))}, variable(0), api.Level{N: 3}, api.OK},
		{[]api.Term{natElim(2, set(1), set(0), lam("_", c("Nat"), lam("X", set(1), c("X"))), number(2))}, variable(0), api.Level{}, api.OK},
		{[]api.Term{sort(param(9, 0))}, variable(0), param(9, 0), api.OK},
		{nil, c("Arity", c("one")), api.Level{}, api.OK},
		{nil, c("zero"), api.Level{}, api.ErrSort},
		{nil, c("B"), api.Level{}, api.ErrSort},
		{nil, nats("x", c("Nat")), api.Level{}, api.ErrSort},
		{[]api.Term{app(set(0), c("Nat"))}, variable(0), api.Level{}, api.ErrSort},
		{[]api.Term{meta(0)}, variable(0), api.Level{}, api.ErrSort},
		{nil, variable(0), api.Level{}, api.ErrVar},
		{nil, c("zero", c("zero")), api.Level{}, api.ErrPi},
	} {
		l, e := kernel.Sort(s, 2, x.ctx, x.t, much)
		if e != x.e || !sameLevels(l, x.l) {
			t.Errorf("P902: %v: %s: %v, %v, not %v, %v", shows(x.ctx), show(x.t), l, e, x.l, x.e)
		}
	}
}

func sameLevels(a, b api.Level) bool { return term.Same(sort(a), sort(b)) }

func TestP902Check(t *testing.T) {
	s, n := signature(t), c("Nat")
	for what, x := range map[string]struct {
		ctx   []api.Term
		t, ty api.Term
		e     api.Errno
	}{
		"its own":             {nil, c("zero"), n, api.OK},
		"by a step":           {nil, c("zero"), app(lam("A", set(0), c("A")), n), api.OK},
		"by a definition":     {nil, c("suc"), c("Fun"), api.OK},
		"by computing":        {nil, c("plus"), c("Arity", number(2)), api.OK},
		"further in":          {nil, nats("x", c("x")), arrow(c("N"), c("Arity", c("zero"))), api.OK},
		"Hids aside":          {nil, hidden(nats("x", c("x"))), arrow(n, n), api.OK},
		"a proof":             {nil, at("refl", levels(0), n, number(4)), c("Eq0", c("plus", number(2), number(2)), number(4)), api.OK},
		"in a context":        {[]api.Term{set(0), variable(0)}, variable(0), variable(1), api.OK},
		"of a universe":       {nil, n, set(0), api.OK},
		"by eta in a type":    {nil, at("any", levels(0), at("Eq", levels(0), c("Fun"), c("suc"), c("suc"))), at("Eq", levels(0), c("Fun"), c("suc"), nats("x", c("suc", c("x")))), api.OK},
		"a type with a meta":  {[]api.Term{app(meta(1), n)}, variable(0), app(meta(1), c("N")), api.OK},
		"another":             {nil, c("zero"), set(0), api.ErrType},
		"another universe":    {nil, n, set(1), api.ErrType},
		"another number":      {nil, at("refl", levels(0), n, number(4)), c("Eq0", number(4), number(5)), api.ErrType},
		"another variable":    {[]api.Term{set(0), set(0), variable(1)}, variable(0), variable(1), api.ErrType},
		"what a type binds":   {[]api.Term{n, pi("x", n, c("Eq0", c("x"), variable(0)))}, variable(0), arrow(n, c("Eq0", variable(1), variable(1))), api.ErrType},
		"what a λ binds":      {[]api.Term{n, at("Eq", levels(0), c("Fun"), nats("x", c("x")), c("suc"))}, variable(0), at("Eq", levels(0), c("Fun"), nats("x", variable(1)), c("suc")), api.ErrType},
		"no type at all":      {nil, c("zero"), c("zero"), api.ErrType},
		"a wrong one":         {nil, c("zero"), c("zero", c("zero")), api.ErrType},
		"a variable of none":  {nil, c("zero"), variable(3), api.ErrType},
		"a meta":              {nil, c("zero"), meta(0), api.ErrType},
		"the term is wrong":   {nil, c("zero", c("zero")), n, api.ErrPi},
		"both are":            {nil, c("none"), set(0), api.ErrConst},
		"a type that is none": {nil, c("none"), api.Term{}, api.ErrForm},
		"the type's first":    {nil, api.Term{}, high(501), api.ErrLong},
		"then the term's":     {[]api.Term{high(501)}, api.Term{}, n, api.ErrForm},
		"then the context's":  {[]api.Term{high(501)}, c("none"), n, api.ErrLong},
		"too great a type":    {nil, c("zero"), high(501), api.ErrLong},
	} {
		if e := kernel.Check(s, 0, x.ctx, x.t, x.ty, much); e != x.e {
			t.Errorf("P902: %s: %v, not %v", what, e, x.e)
		}
	}
}

// high is a term of that height, without a type.
func high(n int) api.Term {
	t := c("a")
	for range n - 1 {
		t = fst(t)
	}
	return t
}

// term.Check's errors are told ahead of all others: the term's, the context's in order; then whether that is too long.
func TestP902Wrong(t *testing.T) {
	s := signature(t)
	none, long := api.Term{}, high(501)
	many := func(n, at int, wrong api.Term) []api.Term {
		ctx := make([]api.Term, n)
		for i := range ctx {
			ctx[i] = set(0)
		}
		if at >= 0 {
			ctx[at] = wrong
		}
		return ctx
	}
	for what, x := range map[string]in{
		"no term":             not(api.ErrForm, none),
		"too high":            not(api.ErrLong, long),
		"a part that is none": not(api.ErrForm, c("none", none)),
		"a level that is not": not(api.ErrForm, set(-1)),
		"no Σ in a pair":      not(api.ErrForm, of(api.TPair, c("Nat"), c("zero"), c("zero"))),
		"the context's":       not(api.ErrForm, c("none"), set(0), none, long),
		"in order":            not(api.ErrLong, c("none"), set(0), long, none),
		"the term's first":    not(api.ErrForm, none, long),
		"and the other way":   not(api.ErrLong, long, none),
		"1,000":               {many(1000, -1, none), variable(999), set(0), api.OK},
		"1,001":               {many(1001, -1, none), c("none"), none, api.ErrLong},
		"1,001, a wrong one":  {many(1001, 1000, none), c("none"), none, api.ErrForm},
		"1,001, a wrong term": {many(1001, -1, none), none, none, api.ErrForm},
		"1,000 and the last":  {many(1000, 999, none), c("zero"), none, api.ErrForm},
	} {
		told(t, s, 0, what, x)
		if l, e := kernel.Sort(s, 0, x.ctx, x.t, much); x.e != api.OK && (e != x.e || l.N != 0) {
			t.Errorf("%s: Sort: %v, %v", what, l, e)
		}
		if e := kernel.Check(s, 0, x.ctx, x.t, set(0), much); x.e != api.OK && e != x.e {
			t.Errorf("%s: Check: %v", what, e)
		}
	}
	deep := variable(0)
	for range 499 {
		deep = of(api.TLam, set(0), deep)
	}
	if _, e := kernel.Infer(s, 0, many(1000, -1, none), deep, much); e != api.OK {
		t.Errorf("499 more behind 1,000: %v", e)
	}
	endless := api.Term{Form: api.TFst, Kids: make([]api.Term, 1)}
	endless.Kids[0] = endless
	told(t, s, 0, "without an end", not(api.ErrLong, endless))
	told(t, s, 0, "a context without an end", not(api.ErrLong, c("zero"), endless))
	told(t, nil, 0, "no signature", is(lam("x", set(0), variable(0)), arrow(set(0), set(1)), set(1)))
	told(t, nil, 0, "and a constant", not(api.ErrConst, c("Nat")))
}
