package reduce_test

import (
	"math"
	"reflect"
	"testing"

	"telamon/api"
	"telamon/reduce"
	"telamon/sig"
	"telamon/term"
)

const much = 100000 // of fuel: more than any test here needs

// comes fails, if Whnf of x is not want, with much fuel.
func comes(t *testing.T, s *sig.Sig, what string, x, want api.Term) {
	t.Helper()
	got, e := reduce.Whnf(s, x, much)
	if e != api.OK || !term.Same(got, want) {
		t.Errorf("P701: %s: Whnf of %s: %s, %v, not %s", what, show(x), show(got), e, show(want))
	}
}

// stands fails, if Whnf of x is not x.
func stands(t *testing.T, s *sig.Sig, what string, x api.Term) {
	t.Helper()
	comes(t, s, what, x, x)
}

// normal fails, if Normal of x is not want, with much fuel; what is normal has no step more.
func normal(t *testing.T, s *sig.Sig, what string, x, want api.Term) {
	t.Helper()
	for _, y := range []api.Term{x, want} {
		got, e := reduce.Normal(s, y, much)
		if e != api.OK || !term.Same(got, want) {
			t.Errorf("P701: %s: Normal of %s: %s, %v, not %s", what, show(y), show(got), e, show(want))
		}
	}
	if got, e := reduce.Normal(s, want, 0); e != api.OK || !term.Same(got, want) {
		t.Errorf("P702: %s: Normal of %s without fuel: %s, %v", what, show(want), show(got), e)
	}
}

// refused fails, if Whnf and Normal do not tell just that error.
func refused(t *testing.T, s *sig.Sig, what string, x api.Term, fuel int, whnf, normal api.Errno) {
	t.Helper()
	got, e := reduce.Whnf(s, x, fuel)
	if e != whnf || e != api.OK && !reflect.DeepEqual(got, api.Term{}) {
		t.Errorf("%s: Whnf: %s, %v, not %v", what, show(got), e, whnf)
	}
	got, e = reduce.Normal(s, x, fuel)
	if e != normal || e != api.OK && !reflect.DeepEqual(got, api.Term{}) {
		t.Errorf("%s: Normal: %s, %v, not %v", what, show(got), e, normal)
	}
}

func TestExamples(t *testing.T) {
	s := signature(t)
	one := number(1)
	normal(t, s, "the chapter's", c("plus", one, one), number(2))
	stands(t, s, "the chapter's", c("suc", c("plus", one, one)))
}

func TestP701Beta(t *testing.T) {
	s, n := signature(t), c("Nat")
	comes(t, s, "one", app(id(), c("a")), c("a"))
	comes(t, s, "a λ behind", app(lam("x y", n, c("x")), variable(7)), of(api.TLam, n, variable(8)))
	comes(t, s, "two", app(lam("x y", n, app(c("x"), c("y"))), variable(7), c("a")), app(variable(7), c("a")))
	comes(t, s, "free ones are one less", app(of(api.TLam, n, app(variable(3), variable(0), variable(1))), c("a")), app(variable(2), c("a"), variable(0)))
	comes(t, s, "as it stood", app(lam("x", n, c("f", c("x"))), app(id(), c("a"))), c("f", app(id(), c("a"))))
	comes(t, s, "in a domain", app(of(api.TLam, n, of(api.TPi, variable(0), variable(1))), variable(4)), of(api.TPi, variable(4), variable(5)))
	comes(t, s, "more behind", app(id(), c("f"), c("a"), c("b")), c("f", c("a"), c("b")))
	comes(t, s, "at the head, again and again", app(id(), id(), id(), c("f"), c("a")), c("f", c("a")))
	stands(t, s, "no argument", lam("x", n, app(id(), c("x"))))
	stands(t, s, "in an argument", c("f", app(id(), c("a"))))
	stands(t, s, "a TPi is no λ", app(of(api.TPi, n, variable(0)), c("a")))
	stands(t, s, "a TSigma is no λ", app(of(api.TSigma, n, variable(0)), c("a")))
	stands(t, s, "a TSort", app(set(), c("a")))
	stands(t, s, "a pair", app(pair(c("a"), c("a")), app(id(), c("a"))))
	stands(t, s, "a meta", app(meta(1), app(id(), variable(0))))
	stands(t, s, "a variable", app(variable(2), app(id(), variable(0))))
}

// Hids do not matter to a step, and stay where they stood.
func TestP701Hids(t *testing.T) {
	s, n := signature(t), c("Nat")
	for i := range 4 {
		f := lam("x", n, c("x"))
		f.Hid = i&1 != 0
		x := app(f, c("f"))
		x.Hid = i&2 != 0
		comes(t, s, "beta", x, c("f"))
		comes(t, s, "more behind", hidden(app(app(x, c("a")), c("a"))), hidden(c("f", c("a"), c("a"))))
	}
	x := hidden(app(at("Nat.elim", zeros(1)), c("P")))
	x = app(hidden(app(x, c("z"))), c("s"))
	stands(t, s, "a row", hidden(app(x, c("a"))))
	comes(t, s, "iota", hidden(app(hidden(app(x, hidden(app(c("suc"), c("a"))))), c("b"))), hidden(app(c("s"), c("a"), at("Nat.elim", zeros(1), c("P"), c("z"), c("s"), c("a")), c("b"))))
	hid := hidden(lam("x", n, hidden(app(c("f"), c("x")))))
	comes(t, s, "within what is put in", app(lam("y", n, c("f", c("y"))), hid), c("f", hid))
	normal(t, s, "all of them", app(id(), hidden(of(api.TPi, n, hid))), hidden(of(api.TPi, n, hid)))
}

func TestP701Delta(t *testing.T) {
	wrong := []api.Decl{def("alias", 0, c("unknown")), def("hop", 0, c("alias"))}
	s := signature(t, wrong...)
	comes(t, s, "no levels", c("one"), number(1))
	comes(t, s, "at the head", c("twice", c("f"), c("a")), c("f", c("f", c("a"))))
	comes(t, s, "two, to what means nothing", c("hop", c("a")), c("unknown", c("a")))
	five := api.Level{N: 5}
	comes(t, s, "one level", at("id", []api.Level{five}), lam("A", sort(five), lam("x", c("A"), c("x"))))
	comes(t, s, "two levels", at("two", []api.Level{five, param(3, 1)}), pi("A", sort(api.Level{N: 5, Vars: []api.LVar{{Var: 3, Add: 3}}}), c("A")))
	comes(t, s, "two levels of one", at("two", []api.Level{param(3, 1), param(3, 0)}), pi("A", sort(api.Level{N: 4, Vars: []api.LVar{{Var: 3, Add: 2}}}), c("A")))
	stands(t, s, "too few levels", at("two", zeros(1), c("a")))
	stands(t, s, "too many", at("id", zeros(2), c("Nat"), c("a")))
	stands(t, s, "one where there is none", at("one", zeros(1)))
	stands(t, s, "none where there is one", c("id", c("Nat"), c("a")))
	for _, name := range []string{"a", "Nat", "zero", "suc", "Nat.elim", "unknown", "one.elim", "a.elim"} {
		stands(t, s, "no definition", c(name, app(id(), c("a"))))
	}
	stands(t, s, "in an argument", c("f", c("one")))
}

func TestP701Projections(t *testing.T) {
	s, n := signature(t), c("Nat")
	p := pair(app(id(), c("zero")), c("a"))
	comes(t, s, "fst", fst(p), c("zero"))
	comes(t, s, "snd", snd(p), c("a"))
	comes(t, s, "by steps", snd(app(lam("x y", n, pair(c("y"), c("x"))), app(id(), c("f")), c("a"))), c("f"))
	comes(t, s, "of parts", fst(snd(pair(c("a"), pair(c("b"), c("c"))))), c("b"))
	comes(t, s, "as it stood", fst(pair(c("f", app(id(), c("a"))), c("a"))), c("f", app(id(), c("a"))))
	comes(t, s, "at the head", app(fst(pair(id(), variable(0))), variable(1)), variable(1))
	comes(t, s, "at the head of a longer row", app(snd(pair(c("a"), lam("x y", n, app(c("y"), c("x"))))), c("b"), c("f")), c("f", c("b")))
	inner := app(id(), variable(2))
	stands(t, s, "no pair", fst(inner))
	stands(t, s, "no pair, at the head", app(snd(inner), inner))
	stands(t, s, "of what does not step", fst(snd(inner)))
	stands(t, s, "a pair that is applied", fst(app(pair(c("a"), c("a")), c("a"))))
	stands(t, s, "a λ", fst(lam("x", n, p)))
	stands(t, s, "a TSigma", snd(of(api.TSigma, n, n)))
	stands(t, s, "a pair", pair(app(id(), c("a")), fst(p)))
	stands(t, s, "one that comes to no pair", fst(fst(app(id(), pair(variable(0), c("a"))))))
}

func TestP701Iota(t *testing.T) {
	s := signature(t)
	k := func(x string) api.Term { return c(x) }
	ne := func(x ...api.Term) api.Term { return at("Nat.elim", []api.Level{param(2, 1)}, x...) }
	P, z, m := k("P"), k("z"), k("m")
	comes(t, s, "zero", ne(P, z, m, k("zero")), z)
	comes(t, s, "suc", ne(P, z, m, c("suc", k("n"))), app(m, k("n"), ne(P, z, m, k("n"))))
	comes(t, s, "as they stood", ne(app(id(), P), app(id(), z), m, app(id(), c("suc", app(id(), k("n"))))), app(m, app(id(), k("n")), ne(app(id(), P), app(id(), z), m, app(id(), k("n")))))
	comes(t, s, "more behind", ne(P, z, m, k("zero"), k("a"), k("b")), app(z, k("a"), k("b")))
	comes(t, s, "a method that steps", ne(P, id(), m, k("zero"), k("a")), k("a"))
	comes(t, s, "twice", ne(P, k("zero"), lam("x r", k("Nat"), k("r")), number(2)), k("zero"))
	comes(t, s, "an x by an eliminator", ne(P, z, m, ne(P, k("one"), m, k("zero"))), app(m, k("zero"), ne(P, z, m, k("zero"))))
	comes(t, s, "an x by a projection", ne(P, z, m, fst(pair(k("zero"), k("zero")))), z)

	A, i := k("A"), k("i")
	ve := func(x ...api.Term) api.Term { return at("Vec.elim", zeros(1), x...) }
	comes(t, s, "nil", ve(A, P, z, m, i, c("nil", k("other"))), z)
	comes(t, s, "cons: the eliminator's params, its own index", ve(A, P, z, m, i, c("cons", k("other"), k("n"), k("x"), k("xs"))), app(m, k("n"), k("x"), k("xs"), ve(A, P, z, m, k("n"), k("xs"))))

	ee := func(x ...api.Term) api.Term { return at("Eq.elim", zeros(2), x...) }
	comes(t, s, "refl", ee(A, k("a"), P, m, i, at("refl", zeros(1), k("B"), k("b"))), m)
	comes(t, s, "a constructor's levels do not matter", ee(A, k("a"), P, m, i, c("refl", k("B"), k("b")), k("c")), app(m, k("c")))

	te := func(x ...api.Term) api.Term { return at("Tree.elim", zeros(1), x...) }
	l, b := k("l"), k("b")
	comes(t, s, "leaf", te(P, l, m, b, k("leaf")), l)
	comes(t, s, "box", te(P, l, m, b, c("box", k("n"))), app(b, k("n")))
	f := lam("x", k("Nat"), lam("e", c("Eq", k("Nat"), k("n"), k("n")), te(P, l, m, b, app(k("g"), k("x"), k("e")))))
	comes(t, s, "node: args, then what each recursive one comes to", te(P, l, m, b, c("node", k("t"), k("n"), k("g"), k("u"))), app(m, k("t"), k("n"), k("g"), k("u"), te(P, l, m, b, k("t")), f, te(P, l, m, b, k("u"))))
}

func TestP701IotaFunctions(t *testing.T) {
	s := signature(t)
	k := func(x string) api.Term { return c(x) }
	A, B, R, P, m := k("A"), k("B"), k("R"), k("P"), k("m")
	levels := []api.Level{{N: 1}, param(0, 2), param(1, 0)}
	we := func(x ...api.Term) api.Term { return at("W.elim", levels, x...) }
	comes(t, s, "sup", we(A, B, P, m, at("sup", zeros(2), k("C"), k("D"), k("a"), k("g"))), app(m, k("a"), k("g"), lam("z", app(B, k("a")), we(A, B, P, m, app(k("g"), k("z"))))))
	ae := func(x ...api.Term) api.Term { return at("Acc.elim", zeros(1), x...) }
	h := lam("y", A, lam("r", app(R, k("y"), k("x")), ae(A, R, P, m, k("y"), app(k("h"), k("y"), k("r")))))
	comes(t, s, "acc: an index that hangs on zs", ae(A, R, P, m, k("i"), c("acc", k("C"), k("D"), k("x"), k("h"))), app(m, k("x"), k("h"), h))
	levels = []api.Level{{N: 3}, param(4, 1), {}}
	le := func(x ...api.Term) api.Term { return at("Lev.elim", levels, x...) }
	both := sort(api.Level{N: 4, Vars: []api.LVar{{Var: 4, Add: 1}}})
	first := lam("z", both, le(P, k("s"), m, set(), app(k("g"), k("z"))))
	comes(t, s, "the eliminator's levels", le(P, k("s"), m, k("i"), at("go", zeros(2), k("g"), k("x"))), app(m, k("g"), k("x"), first, le(P, k("s"), m, sort(param(4, 4)), k("x"))))
	// The same with variables in place of constants: what goes under the λs is lifted.
	x := ae(variable(9), variable(8), variable(7), variable(6), variable(5), c("acc", variable(4), variable(3), variable(2), variable(1)))
	hyp := of(api.TLam, variable(9), of(api.TLam, app(variable(9), variable(0), variable(3)), ae(variable(11), variable(10), variable(9), variable(8), variable(1), app(variable(3), variable(1), variable(0)))))
	comes(t, s, "variables", x, app(variable(6), variable(2), variable(1), hyp))
}

func TestP701IotaStands(t *testing.T) {
	d := nat()
	d.Name, d.Ctors = "Bad", []api.Ctor{ctor("good", c("Bad")), ctor("bad", c("Nat")), ctor("fine", arrow(c("Bad"), c("Bad")))}
	none := family("None", 0, 1, set(), ctor("no", c("None")))
	odd := family("Odd", 0, 0, c("Nat"), ctor("odd", c("Odd")))
	s := signature(t, d, none, odd)
	k := func(x string) api.Term { return c(x) }
	inner := app(id(), k("a"))
	el := func(levels int, x ...api.Term) api.Term { return at("Nat.elim", zeros(levels), x...) }
	P, z, m := k("P"), k("z"), k("m")
	stands(t, s, "an x that is no constructor", el(1, P, z, m, inner))
	stands(t, s, "and more behind", el(1, P, z, m, inner, inner))
	stands(t, s, "no x", el(1, P, z, m))
	stands(t, s, "nothing", el(1))
	stands(t, s, "no level", el(0, P, z, m, k("zero")))
	stands(t, s, "two levels", el(2, P, z, m, k("zero")))
	stands(t, s, "a constructor without its argument", el(1, P, z, m, app(id(), k("suc"))))
	stands(t, s, "a constructor with one more", el(1, P, z, m, c("suc", k("a"), k("a"))))
	stands(t, s, "one with one more", el(1, P, z, m, c("zero", k("a"))))
	stands(t, s, "another family's", el(1, P, z, m, app(id(), k("leaf"))))
	stands(t, s, "the family", el(1, P, z, m, k("Nat")))
	stands(t, s, "the eliminator", el(1, P, z, m, el(1)))
	stands(t, s, "a λ", el(1, P, z, m, lam("x", k("Nat"), k("zero"))))
	stands(t, s, "a pair", el(1, P, z, m, pair(k("zero"), k("zero"))))
	stands(t, s, "no name", el(1, P, z, m, k("none")))
	stands(t, s, "an x that stands itself", el(1, P, z, m, el(1, P, z, m, fst(inner))))
	stands(t, s, "no constructor at all", at("Bot.elim", zeros(1), P, inner))
	stands(t, s, "there is nothing to look for", at("Bot.elim", zeros(1), P, k("loop")))
	stands(t, s, "levels as the family's", at("W.elim", zeros(2), k("A"), k("B"), P, m, at("sup", zeros(2), k("A"), k("B"), k("a"), k("g"))))
	stands(t, s, "without params", at("Vec.elim", zeros(1), k("A"), P, z, m, k("i"), k("nil")))
	bad := func(x api.Term) api.Term { return at("Bad.elim", zeros(1), P, k("g"), k("b"), k("f"), x) }
	comes(t, s, "a constructor beside one that is none", bad(k("good")), k("g"))
	comes(t, s, "another", bad(c("fine", k("good"))), c("f", k("good"), bad(k("good"))))
	stands(t, s, "one that is none", bad(k("bad")))
	stands(t, s, "a family of fewer TPis than params", at("None.elim", zeros(1), P, k("x"), k("n"), k("no")))
	stands(t, s, "one whose type is no sort", at("Odd.elim", zeros(1), P, k("o"), k("odd")))
	stands(t, s, "what is no family's is not looked at", at("Odd.elim", zeros(1), P, k("o"), k("loop")))
	stands(t, s, "nor without levels", el(0, P, z, m, k("loop")))
}

// The steps at the head, one of each kind behind the other.
// A constructor may stand with any levels, even with more than a term's bytes can have; it is still no other constant with as many.
func TestP701IotaManyLevels(t *testing.T) {
	s, many := signature(t), make([]api.Level, 5000)
	for i := range many {
		for j := range 64 {
			many[i].Vars = append(many[i].Vars, api.LVar{Var: 300 + j, Add: 200})
		}
	}
	x := c("f")
	for _, name := range []string{"a", "zero", "suc", "zero"} {
		x = app(x, natElim(c("p"), c("q"), at(name, many)))
	}
	n, e := reduce.Normal(s, x, much)
	for i, stands := range []bool{true, false, true, false} {
		arg := n
		for range 3 - i {
			arg = arg.Kids[0]
		}
		if e != api.OK || (arg.Kids[1].Form == api.TApp) != stands {
			t.Errorf("P701: %d: %v: %v", i, e, arg.Kids[1].Form)
		}
	}
}

func TestP701Mixed(t *testing.T) {
	s, n := signature(t), c("Nat")
	comes(t, s, "zero + a", c("plus", c("zero"), c("a")), c("a"))
	comes(t, s, "a + zero", c("plus", c("a"), c("zero")), natElim(c("zero"), lam("k r", n, c("suc", c("r"))), c("a")))
	comes(t, s, "1 + a", c("plus", c("one"), c("a")), c("suc", natElim(c("a"), lam("k r", n, c("suc", c("r"))), c("zero"))))
	f := natElim(pair(id(), c("a")), lam("k r", n, pair(lam("x", n, app(fst(c("r")), c("suc", c("x")))), c("k"))), number(2))
	comes(t, s, "a function by an eliminator", app(fst(f), c("a")), c("suc", c("suc", c("a"))))
	comes(t, s, "the second part", snd(f), number(1))
	poly := at("id", []api.Level{{N: 1}}, arrow(n, n), at("id", zeros(1), n))
	comes(t, s, "definitions of definitions", app(poly, c("one")), number(1))
	k := lam("x y", n, c("x"))
	comes(t, s, "what is not asked is not looked at", app(k, c("a"), c("loop")), c("a"))
	comes(t, s, "nor in a pair", fst(pair(c("a"), c("loop"))), c("a"))
	comes(t, s, "nor in a method", natElim(c("a"), c("loop"), c("zero")), c("a"))
}

func TestP701WrongTerms(t *testing.T) {
	s := signature(t)
	ring := of(api.TApp, c("a"), c("a"))
	ring.Kids[1] = ring
	for what, x := range map[string]struct {
		t api.Term
		e api.Errno
	}{
		"nothing":             {api.Term{}, api.ErrForm},
		"a form that is none": {of(12), api.ErrForm},
		"a kid too few":       {of(api.TApp, c("a")), api.ErrForm},
		"an index below 0":    {variable(-1), api.ErrForm},
		"an index too great":  {variable(1<<30 + 1), api.ErrForm},
		"within a λ":          {lam("x", c("Nat"), app(c("x"), api.Term{})), api.ErrForm},
		"a pair of no TSigma": {of(api.TPair, c("Nat"), c("a"), c("a")), api.ErrForm},
		"a level above":       {sort(api.Level{N: api.MaxLevel + 1}), api.ErrForm},
		"no name":             {c(""), api.ErrForm},
		"too high":            {high(api.MaxHigh+1, c("a")), api.ErrLong},
		"too many parts":      {wide(api.MaxTerm+1, c("a")), api.ErrLong},
		"no end":              {ring, api.ErrLong},
		"both, ErrLong first": {high(api.MaxHigh+1, api.Term{}), api.ErrLong},
		"what is thrown away": {app(lam("x", c("Nat"), c("a")), api.Term{}), api.ErrForm},
	} {
		for _, fuel := range []int{0, -1, much} {
			refused(t, s, what, x.t, fuel, x.e, x.e)
			refused(t, nil, what, x.t, fuel, x.e, x.e)
		}
	}
	stands(t, s, "just as high", high(api.MaxHigh, c("a")))
	stands(t, s, "just as many parts", wide(api.MaxTerm-1, c("a")))
	normal(t, s, "just as high", high(api.MaxHigh, c("a")), high(api.MaxHigh, c("a")))
	normal(t, s, "just as many parts", wide(api.MaxTerm-1, c("a")), wide(api.MaxTerm-1, c("a")))
}

func TestP701NoSignature(t *testing.T) {
	for _, s := range []*sig.Sig{nil, sig.New()} {
		comes(t, s, "beta", app(id(), variable(1)), variable(1))
		comes(t, s, "a projection", fst(pair(c("a"), c("b"))), c("a"))
		stands(t, s, "a constant", c("one"))
		stands(t, s, "an eliminator", natElim(c("z"), c("s"), c("zero")))
		normal(t, s, "all of it", c("one", app(id(), c("a")), natElim(c("z"), c("s"), app(id(), c("zero")))), c("one", c("a"), natElim(c("z"), c("s"), c("zero"))))
	}
}

func TestP701Normal(t *testing.T) {
	s, n := signature(t), c("Nat")
	for _, x := range [][3]int{{0, 0, 0}, {1, 1, 2}, {7, 5, 12}, {40, 60, 100}} {
		normal(t, s, "numbers", c("plus", number(x[0]), number(x[1])), number(x[2]))
	}
	a := app(id(), c("a")) // comes to a
	normal(t, s, "a domain of a λ", lam("x", app(id(), n), c("x")), lam("x", n, c("x")))
	normal(t, s, "a body", lam("x", n, app(id(), c("x"))), lam("x", n, c("x")))
	normal(t, s, "both of a TPi", pi("x", a, app(id(), c("x"))), pi("x", c("a"), c("x")))
	normal(t, s, "both of a TSigma", bind(api.TSigma, "x", a, app(id(), c("x"))), bind(api.TSigma, "x", c("a"), c("x")))
	normal(t, s, "all of a pair", of(api.TPair, bind(api.TSigma, "x", a, app(id(), c("x"))), a, fst(pair(a, a))), of(api.TPair, bind(api.TSigma, "x", c("a"), c("x")), c("a"), c("a")))
	normal(t, s, "arguments", c("f", a, variable(1), a), c("f", c("a"), variable(1), c("a")))
	normal(t, s, "arguments of a sort, a TPi, a pair, a meta", app(set(), app(arrow(a, a), a), app(pair(a, a), a), app(meta(3), a)), app(set(), app(arrow(c("a"), c("a")), c("a")), app(pair(c("a"), c("a")), c("a")), app(meta(3), c("a"))))
	normal(t, s, "what is projected", fst(snd(app(id(), variable(2)))), fst(snd(variable(2))))
	normal(t, s, "at a head", app(fst(app(id(), variable(2))), a), app(fst(variable(2)), c("a")))
	normal(t, s, "all of an eliminator", at("Vec.elim", zeros(1), a, a, a, a, a, a, a), at("Vec.elim", zeros(1), times(7, c("a"))...))
	stuck := lam("k r", n, c("suc", c("r")))
	normal(t, s, "under λs", lam("m n", app(id(), n), c("plus", c("suc", c("m")), c("n"))), lam("m n", n, c("suc", natElim(c("n"), stuck, c("m")))))
	normal(t, s, "a definition's value", c("plus"), lam("m n", n, natElim(c("n"), stuck, c("m"))))
	normal(t, s, "free ones", lam("x y", n, app(of(api.TLam, n, app(variable(0), variable(1), variable(5))), variable(4))), lam("x y", n, app(variable(4), variable(0), variable(4))))
	normal(t, s, "one λ in many places", app(lam("g", n, pair(c("g"), lam("y z", n, app(c("z"), c("g"))))), lam("u", n, app(id(), app(c("u"), variable(4))))), pair(lam("u", n, app(c("u"), variable(4))), lam("y z", n, app(c("z"), lam("u", n, app(c("u"), variable(4)))))))
	normal(t, s, "first further in", app(lam("g", n, pair(lam("y z", n, app(c("z"), c("g"))), c("g"))), lam("u", n, app(id(), app(c("u"), variable(4))))), pair(lam("y z", n, app(c("z"), lam("u", n, app(c("u"), variable(4))))), lam("u", n, app(c("u"), variable(4)))))
	normal(t, s, "levels", c("f", at("two", []api.Level{{N: 5}, {}})), c("f", pi("A", sort(api.Level{N: 5}), c("A"))))
	normal(t, s, "what does not unfold", at("one", zeros(1), a), at("one", zeros(1), c("a")))
}

// What is made normal under a λ was looked at ahead of that, or is looked at again further in.
func TestP701NormalLooks(t *testing.T) {
	s, n := signature(t), c("Nat")
	x := natElim(app(id(), c("z")), app(id(), c("s")), app(id(), natElim(c("z"), c("s"), app(id(), c("b")))))
	want := natElim(c("z"), c("s"), natElim(c("z"), c("s"), c("b")))
	normal(t, s, "an x in an x", x, want)
	normal(t, s, "an x in two places", app(lam("x", n, pair(natElim(c("z"), c("s"), c("x")), lam("y", n, c("x")))), app(id(), c("a"))), pair(natElim(c("z"), c("s"), c("a")), lam("y", n, c("a"))))
	normal(t, s, "a head that was looked at", app(lam("x", n, app(fst(c("x")), fst(app(c("x"), c("a"))))), app(id(), c("b"))), app(fst(c("b")), fst(c("b", c("a")))))
	part := at("Nat.elim", zeros(1), lam("_", n, n), c("a"), c("s"))
	comes(t, s, "an eliminator that gets its x later", app(lam("g", n, app(c("g"), c("zero"))), app(id(), part)), c("a"))
	comes(t, s, "and again", app(lam("g", n, natElim(c("a"), lam("k r", n, app(c("g"), c("k"))), app(c("g"), c("zero")))), app(id(), at("Nat.elim", zeros(1), lam("_", n, n), c("one"), c("s")))), c("suc", c("zero")))
}

func TestP703Fuel(t *testing.T) {
	s := signature(t)
	one := app(id(), variable(1))
	for _, fuel := range []int{0, -1, -20, math.MinInt} {
		refused(t, s, "a step without fuel", one, fuel, api.ErrFuel, api.ErrFuel)
		refused(t, s, "a look without fuel", fst(one), fuel, api.ErrFuel, api.ErrFuel)
		refused(t, s, "in an argument", c("f", one), fuel, api.OK, api.ErrFuel)
		refused(t, s, "no step", c("f", variable(1)), fuel, api.OK, api.OK)
	}
	refused(t, s, "all the fuel there is", one, math.MaxInt, api.OK, api.OK)
}
