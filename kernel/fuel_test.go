package kernel_test

import (
	"testing"

	"telamon/api"
	"telamon/kernel"
	"telamon/sig"
	"telamon/term"
)

// takes fails, if Infer does not need just so much fuel, or tells something beside ErrFuel.
func takes(t *testing.T, s *sig.Sig, what string, ctx []api.Term, x api.Term, steps int) {
	t.Helper()
	for fuel := -1; fuel <= steps+2; fuel++ {
		want, e := api.Term{}, api.ErrFuel
		if max(fuel, 0) >= steps {
			want, _, e = second(s, 0, ctx, x, much)
		}
		if got, e2 := kernel.Infer(s, 0, ctx, x, fuel); e2 != e || !sameOrNone(got, want) {
			t.Errorf("P903: %s: with %d of %d: %s, %v, not %s, %v", what, fuel, steps, show(got), e2, show(want), e)
		}
	}
}

// All Whnfs and Convs of a call have one fuel; what was found once takes no step again.
func TestP903Fuel(t *testing.T) {
	s, n, v := signature(t), c("Nat"), variable(0)
	arity := []api.Term{c("Arity", number(2))}
	fun, nums := []api.Term{c("Fun")}, sigma("x", n, n)
	for what, x := range map[string]struct {
		ctx   []api.Term
		t     api.Term
		steps int
	}{
		"none":                       {nil, number(9), 0},
		"none within what is told":   {fun, v, 0},
		"none of a value":            {nil, c("plus", number(3), number(4)), 0},
		"a function":                 {fun, app(v, c("zero")), 1},
		"by computing":               {arity, app(v, c("zero")), 5},
		"and once more":              {arity, app(v, c("zero"), c("zero")), 8},
		"an argument's type":         {[]api.Term{c("N")}, c("suc", v), 1},
		"a domain":                   {[]api.Term{arrow(c("N"), n)}, app(v, c("zero")), 1},
		"a domain of Π":              {[]api.Term{at("U", levels(0))}, of(api.TPi, v, n), 1},
		"a codomain of Π":            {[]api.Term{at("U", levels(0))}, of(api.TPi, n, variable(1)), 1},
		"a domain of Σ":              {[]api.Term{at("U", levels(0))}, of(api.TSigma, v, n), 1},
		"a domain of λ":              {[]api.Term{at("U", levels(0))}, of(api.TLam, v, variable(0)), 1},
		"a first part's type":        {[]api.Term{c("N")}, pair(nums, v, c("zero")), 1},
		"a second part's type":       {[]api.Term{c("N")}, pair(nums, c("zero"), v), 1},
		"what is projected":          {[]api.Term{c("Prod")}, fst(v), 1},
		"what is projected, snd":     {[]api.Term{c("Prod")}, snd(v), 1},
		"the same one twice":         {fun, pair(nums, app(v, c("zero")), app(v, c("zero"))), 1},
		"two of them":                {[]api.Term{c("Fun"), c("Fun")}, pair(nums, app(v, c("zero")), app(variable(1), c("zero"))), 2},
		"one within the other":       {fun, app(v, app(v, app(v, c("zero")))), 1},
		"a constant's type, twice":   {nil, app(c("f"), app(c("f"), c("zero"))), 1},
		"the second kind of step":    {nil, c("suc", at("any", levels(0), app(lam("A", set(0), c("A")), n))), 1},
		"a level's":                  {[]api.Term{at("U", levels(1)), at("U", levels(0))}, of(api.TPi, variable(1), variable(1)), 2},
		"as far as what is wrong":    {fun, app(app(v, c("zero")), c("a")), 1},
		"as far as another type":     {[]api.Term{c("N")}, c("b", v), 1},
		"none behind what is wrong":  {arity, app(c("zero"), app(v, c("zero"))), 0},
		"none of what is not wanted": {nil, at("any", levels(0), c("Arity", number(2))), 0},
	} {
		in := signature(t, axiom("f", 0, c("Fun")))
		takes(t, in, what, x.ctx, x.t, x.steps)
		held(t, in, 0, x.ctx, x.t, 100)
	}
	for fuel, e := range []api.Errno{api.ErrFuel, api.ErrFuel, api.OK, api.OK} {
		if e2 := kernel.Check(s, 0, fun, app(v, c("zero")), c("N"), fuel); e2 != e {
			t.Errorf("P903: Check with %d: %v", fuel, e2)
		}
	}
	for fuel, e := range []api.Errno{api.ErrFuel, api.OK, api.OK} {
		types := []api.Term{arrow(n, at("U", levels(3)))}
		if l, e2 := kernel.Sort(s, 0, types, app(v, c("zero")), fuel); e2 != e || l.N != 0 && e != api.OK || l.N != 3 && e == api.OK {
			t.Errorf("P903: Sort with %d: %v, %v", fuel, l, e2)
		}
	}
}

// What does not end is told as ErrFuel, wherever it is asked for; and nowhere else.
func TestP903Loops(t *testing.T) {
	s, n, loop := signature(t), c("Nat"), endless()
	x, y := variable(0), variable(1)
	nums := sigma("x", n, n)
	ctx := []api.Term{loop, loop, arrow(loop, n), sigma("x", loop, n)}
	pairs, f := x, y
	x, y = variable(3), variable(2)
	for _, fuel := range []int{-1 << 63, -1, 0, 1, 1000, 30000} {
		for what, z := range map[string]api.Term{
			"a function":   app(x, c("zero")),
			"an argument":  c("suc", x),
			"both":         app(f, x),
			"a pair":       fst(x),
			"its second":   snd(x),
			"a domain":     of(api.TPi, x, n),
			"a codomain":   of(api.TSigma, n, variable(4)),
			"a λ's domain": of(api.TLam, x, n),
			"a first part": pair(nums, x, c("zero")),
			"a second":     pair(nums, c("zero"), y),
			"ahead":        app(x, c("none")),
			"a part's":     c("suc", fst(pairs)),
		} {
			if got, e := kernel.Infer(s, 0, ctx, z, fuel); e != api.ErrFuel || got.Form != 0 {
				t.Errorf("P903: %s: %s, %v", what, show(got), e)
			}
		}
		for what, z := range map[string]in{
			"a variable":    {ctx, x, loop, api.OK},
			"a λ around":    {ctx, of(api.TLam, n, variable(4)), of(api.TPi, n, loop), api.OK},
			"a function":    {ctx, f, arrow(loop, n), api.OK},
			"a first part":  {ctx, fst(pairs), loop, api.OK},
			"a second part": {ctx, snd(pairs), n, api.OK},
			"behind":        {ctx, c("zero", app(x, x)), api.Term{}, api.ErrPi},
			"what is none":  {ctx, app(c("none"), app(x, x)), api.Term{}, api.ErrConst},
		} {
			if got, e := kernel.Infer(s, 0, z.ctx, z.t, fuel); e != z.e || !sameOrNone(got, z.ty) {
				t.Errorf("P903: %s: %s, %v", what, show(got), e)
			}
		}
		if _, e := kernel.Sort(s, 0, ctx, x, fuel); e != api.ErrFuel {
			t.Errorf("P903: Sort: %v", e)
		}
		if e := kernel.Check(s, 0, ctx, x, loop, fuel); e != api.ErrFuel {
			t.Errorf("P903: Check: %v", e)
		}
		if e := kernel.Check(s, 0, ctx, c("none"), loop, fuel); e != api.ErrConst {
			t.Errorf("P903: Check: %v", e)
		}
	}
}

// chain is t within n TFsts: a term of any size, which has no type.
func chain(n int, t api.Term) api.Term {
	for range n {
		t = fst(t)
	}
	return t
}

// The edges of what a type on the way may be: its parts, its height, its indices.
func TestP903Long(t *testing.T) {
	n, v, top := c("Nat"), variable(0), 1<<30
	big := func(parts int) api.Term { // a type of just so many parts, at which nobody looks
		if parts%2 == 0 {
			return fst(wide(parts - 1))
		}
		return wide(parts)
	}
	const half = 9997
	arg := wide(half)
	if term.Size(arg) != half || term.Size(big(20000)) != 20000 || term.Size(big(19999)) != 19999 {
		t.Fatalf("%d parts, %d, %d", term.Size(arg), term.Size(big(20000)), term.Size(big(19999)))
	}
	grows := func(parts int) api.Term { // the type of a function whose value's type has so many, if arg is put in
		return of(api.TPi, n, c("Q", chain(parts-2*half-3, v), v))
	}
	second := func(sucs int) api.Term {
		x := v
		for range sucs {
			x = c("suc", x)
		}
		return of(api.TSigma, n, c("Eq0", x, v))
	}
	doubles := func(parts int) api.Term { return app(lam("x", n, c("f", c("x"), c("x"))), big(parts)) }
	tall := func(high int) api.Term { return chain(high-1, c("a")) }
	far := func(index int) api.Term { return app(c("Q"), variable(index)) }
	for what, x := range map[string]in{
		"λ, 20,000 parts":              not(api.OK, lam("x", n, v), big(19998)),
		"λ, 20,001 parts":              not(api.ErrLong, lam("x", n, v), big(19999)),
		"λ, 500 high":                  not(api.OK, lam("x", n, v), tall(499)),
		"λ, 501 high":                  not(api.ErrLong, lam("x", n, v), tall(500)),
		"two λs, 500 high":             not(api.OK, nats("x y", v), tall(498)),
		"two λs, 501 high":             not(api.ErrLong, nats("x y", v), tall(499)),
		"a variable, 20,000 parts":     not(api.OK, v, big(20000)),
		"a variable, 500 high":         not(api.OK, v, tall(500)),
		"the greatest index":           not(api.OK, v, far(top-1)),
		"one too far":                  not(api.ErrLong, v, far(top)),
		"lifted by two":                not(api.OK, variable(1), far(top-2), n),
		"lifted by two, too far":       not(api.ErrLong, variable(1), far(top-1), n),
		"in a λ":                       not(api.OK, lam("x", n, v), far(top-2)),
		"in a λ, too far":              not(api.ErrLong, lam("x", n, v), far(top-1)),
		"what is bound":                not(api.OK, v, of(api.TPi, n, far(top-1))),
		"what is bound, too far":       not(api.ErrLong, v, of(api.TPi, n, far(top))),
		"one that comes back":          not(api.OK, app(v, c("zero")), of(api.TPi, n, far(top-1))),
		"one that went too far":        not(api.ErrLong, app(v, c("zero")), of(api.TPi, n, far(top))),
		"one that comes back, in a λ":  not(api.OK, lam("x", n, app(v, c("zero"))), of(api.TPi, n, far(top-2))),
		"one that went, in a λ":        not(api.ErrLong, lam("x", n, app(v, c("zero"))), of(api.TPi, n, far(top-1))),
		"grown, 20,000 parts":          not(api.OK, app(v, arg), grows(20000)),
		"grown, 20,001 parts":          not(api.ErrLong, app(v, arg), grows(20001)),
		"grown, behind what is wrong":  not(api.ErrType, app(v, c("a")), grows(20001)),
		"grown, ahead of what is":      not(api.ErrLong, app(app(v, arg), c("none")), grows(20001)),
		"a second part, 19,999":        not(api.ErrConst, pair(second(1), arg, c("none"))),
		"a second part, 20,001":        not(api.ErrLong, pair(second(2), arg, c("none"))),
		"projected, 500 high":          not(api.OK, snd(v), of(api.TSigma, n, chain(498, v))),
		"of a part, 500 high":          not(api.OK, snd(fst(v)), of(api.TSigma, c("D497"), n)),
		"of a part, 501 high":          not(api.ErrLong, snd(fst(v)), of(api.TSigma, c("D498"), n)),
		"of a part, the first one":     not(api.OK, fst(fst(v)), of(api.TSigma, c("D498"), n)),
		"put in, 500 high":             not(api.OK, app(v, number(1)), of(api.TPi, n, chain(498, v))),
		"put in, 501 high":             not(api.ErrLong, app(v, number(2)), of(api.TPi, n, chain(498, v))),
		"not put in, 501 high":         not(api.OK, app(v, number(2)), of(api.TPi, n, chain(498, n))),
		"a Whnf that is too great":     not(api.ErrLong, app(v, c("zero")), doubles(10000)),
		"one that is not":              not(api.ErrPi, app(v, c("zero")), doubles(9998)),
		"one that nobody asks for":     not(api.OK, v, doubles(10000)),
		"one of an argument":           not(api.ErrLong, c("suc", v), doubles(10000)),
		"one of an argument, not":      not(api.ErrType, c("suc", v), doubles(9998)),
		"one that is no universe":      not(api.ErrLong, of(api.TPi, v, n), doubles(10000)),
		"one that is no pair":          not(api.ErrLong, fst(v), doubles(10000)),
		"a level":                      not(api.ErrLevels, lam("x", set(api.MaxLevel), c("x"))),
		"a level by a value":           not(api.ErrLong, app(v, c("zero")), at("Up", levels(api.MaxLevel))),
		"a level by a value, no Π":     not(api.ErrPi, app(v, c("zero")), at("Up", levels(api.MaxLevel-1))),
		"a level that has no value":    not(api.ErrLevels, app(v, c("zero")), at("Free", levels(0))),
		"a level that nobody asks for": not(api.OK, v, at("Up", levels(api.MaxLevel))),
	} {
		s := signature(t, axiom("Q", 0, set(0)), def("Up", 1, set(0), sort(param(0, 1))), def("Free", 1, set(0), sort(param(3, 0))),
			def("D497", 0, set(0), of(api.TSigma, n, chain(497, v))), def("D498", 0, set(0), of(api.TSigma, n, chain(498, v))))
		if got, e := kernel.Infer(s, 0, x.ctx, x.t, much); e != x.e || (e == api.OK) != (got.Form != 0) {
			t.Errorf("P903: %s: %v, not %v", what, e, x.e)
		}
		if _, e := held(t, s, 0, x.ctx, x.t, 1000); e != x.e {
			t.Errorf("P903: %s: by the second reading: %v", what, e)
		}
	}
}

// A great type that is asked for again and again is gone through once.
func TestP903Great(t *testing.T) {
	s, ty := signature(t), c("Nat")
	for range 11 {
		ty = arrow(ty, ty)
	}
	join := arrow(lifted(ty, 1), lifted(ty, 1), lifted(ty, 1))
	x, around := variable(1), lam("z", c("Nat"), variable(1))
	for range 11 {
		x = app(variable(0), x, x)
	}
	if got, e := kernel.Infer(s, 0, []api.Term{ty, join}, x, 0); e != api.OK || !term.Same(got, ty) {
		t.Errorf("P903: %v", e)
	}
	of := func(t api.Term) api.Term { return arrow(c("Nat"), t) }
	for range 10 {
		around = app(variable(0), around, variable(2))
	}
	ctx := []api.Term{of(ty), ty, arrow(of(ty), of(ty), of(ty))}
	if got, e := kernel.Infer(s, 0, ctx, around, 0); e != api.OK || !term.Same(got, of(ty)) {
		t.Errorf("P903: %v", e)
	}
}
