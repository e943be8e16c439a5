package data_test

import (
	"reflect"
	"strconv"
	"strings"
	"testing"

	"telamon/api"
	"telamon/data"
	"telamon/kernel"
	"telamon/sig"
)

// in is a declaration, and what Check must tell of it.
type in struct {
	d api.Decl
	e api.Errno
}

func is(d api.Decl) in { return in{d, api.OK} }

func not(e api.Errno, d api.Decl) in { return in{d, e} }

// told fails, if Check, the second reading or Add tell otherwise of one of these; if Check puts something, or Add something else than what it lets in.
func told(t *testing.T, s *sig.Sig, promise string, cases map[string]in) {
	t.Helper()
	before := s.List()
	for what, x := range cases {
		if e := data.Check(s, x.d, much); e != x.e {
			t.Errorf("%s: %s: %v, not %v", promise, what, e, x.e)
		}
		if e := held(t, s, x.d, much); e != x.e {
			t.Errorf("%s: %s: by the second reading: %v, not %v", promise, what, e, x.e)
		}
		own := s.Copy()
		if e := data.Add(own, x.d, much); e != x.e {
			t.Errorf("%s: %s: Add: %v, not %v", promise, what, e, x.e)
		}
		after := before
		if x.e == api.OK {
			other := s.Copy()
			other.Put(x.d)
			after = other.List()
		}
		if !reflect.DeepEqual(own.List(), after) {
			t.Errorf("%s: %s: Add has put something else", promise, what)
		}
		if e := data.Add(own, x.d, much); x.e == api.OK && e != api.ErrTwice {
			t.Errorf("%s: %s: once more: %v", promise, what, e)
		}
	}
	if !reflect.DeepEqual(s.List(), before) {
		t.Errorf("%s: Check has changed the signature", promise)
	}
}

// one is a family D in Set 0 whose only constructor has that type.
func one(ty api.Term) api.Decl { return family("D", 0, 0, set(0), ctor("k", ty)) }

func TestP1001Examples(t *testing.T) {
	bad := c("D")
	box := func(n int) api.Decl { return family("Box", 0, 0, set(n), ctor("box", arrow(set(0), c("Box")))) }
	s := sig.New()
	data.Add(s, nat(), much)
	told(t, s, "P1001", map[string]in{
		"Vec":                       is(vec()),
		"Bad -> Bad":                not(api.ErrPositive, one(arrow(arrow(bad, bad), bad))),
		"a box of Set 0 in Set 0":   not(api.ErrUniverse, box(0)),
		"a box of Set 0 in Set 1":   is(box(1)),
		"a box of Set 0 in Set 2":   is(box(2)),
		"Eq":                        is(eq()),
		"plus":                      is(plus()),
		"Nat.elim's own":            not(api.ErrTwice, nat()),
		"no constructor":            is(family("Bot", 0, 0, set(0))),
		"an axiom":                  is(axiom("x", 0, c("Nat"))),
		"of functions to itself":    is(one(arrow(arrow(c("Nat"), bad), bad))),
		"(Bad -> Nat) -> Bad":       not(api.ErrPositive, one(arrow(arrow(bad, c("Nat")), bad))),
		"((Bad -> Nat) -> Nat) -> ": not(api.ErrPositive, one(arrow(arrow(arrow(bad, c("Nat")), c("Nat")), bad))),
	})
}

// What sig.Put says comes ahead of all else.
func TestP1001Put(t *testing.T) {
	wrong := c("nothing")
	long := strings.Repeat("x", api.MaxName+1)
	kind := func(kind int) api.Decl { return api.Decl{Kind: kind, Name: "x", Type: set(0)} }
	many := one(c("D"))
	for i := range api.MaxCtors {
		many.Ctors = append(many.Ctors, ctor("k"+strconv.Itoa(i), c("D")))
	}
	tall := c("Nat")
	for range api.MaxHigh {
		tall = fst(tall)
	}
	s := signature(t)
	told(t, s, "P1001", map[string]in{
		"a Kind that is none":          not(api.ErrForm, kind(0)),
		"a Kind behind the end":        not(api.ErrForm, kind(4)),
		"a Kind below 0":               not(api.ErrForm, kind(-1)),
		"no name":                      not(api.ErrForm, axiom("", 0, wrong)),
		"a name that is too long":      not(api.ErrForm, axiom(long, 0, wrong)),
		"levels below 0":               not(api.ErrLevels, axiom("x", -1, wrong)),
		"too many levels":              not(api.ErrLevels, axiom("x", api.MaxParams+1, wrong)),
		"a type that is none":          not(api.ErrForm, axiom("x", 0, of(api.TPi, wrong))),
		"a value that is none":         not(api.ErrForm, def("x", 0, wrong, of(api.TFst))),
		"a type that is too high":      not(api.ErrLong, axiom("x", 0, tall)),
		"params below 0":               not(api.ErrLong, family("D", 0, -1, wrong)),
		"too many params":              not(api.ErrLong, family("D", 0, api.MaxTele+1, wrong)),
		"too many constructors":        not(api.ErrLong, many),
		"a constructor without a name": not(api.ErrForm, family("D", 0, 0, wrong, ctor("", wrong))),
		"a constructor's type":         not(api.ErrForm, family("D", 0, 0, wrong, ctor("k", of(api.TVar, wrong)))),
		"a free variable":              not(api.ErrVar, axiom("x", 0, variable(0))),
		"one in a value":               not(api.ErrVar, def("x", 0, wrong, app(wrong, variable(2)))),
		"one in a constructor":         not(api.ErrVar, family("D", 0, 0, wrong, ctor("k", variable(0)))),
		"a definition's name":          not(api.ErrTwice, axiom("plus", 0, wrong)),
		"a constructor's":              not(api.ErrTwice, def("suc", 0, wrong, wrong)),
		"an eliminator's":              not(api.ErrTwice, axiom("Nat.elim", 0, wrong)),
		"a constructor that is there":  not(api.ErrTwice, family("D", 0, 0, wrong, ctor("zero", wrong))),
		"an eliminator that is there":  not(api.ErrTwice, family("D", 0, 0, wrong, ctor("Nat.elim", wrong))),
		"two constructors of one name": not(api.ErrTwice, family("D", 0, 0, wrong, ctor("k", wrong), ctor("k", wrong))),
		"one of the family's name":     not(api.ErrTwice, family("D", 0, 0, wrong, ctor("D", wrong))),
		"one of its eliminator's":      not(api.ErrTwice, family("D", 0, 0, wrong, ctor("D.elim", wrong))),
	})
	for i := len(s.List()); i < api.MaxDecls; i++ {
		if e := data.Add(s, family("f"+strconv.Itoa(i), 0, 0, set(0)), much); e != api.OK {
			t.Fatalf("P1002: %d: %v", i, e)
		}
	}
	for _, d := range []api.Decl{axiom("x", 0, wrong), one(wrong), axiom("plus", 0, c("Nat"))} {
		if e := data.Check(s, d, much); e != api.ErrLong {
			t.Errorf("P1001: one more than there may be: %v", e)
		}
	}
}

// Then the kernel is asked for the type's sort.
func TestP1001Type(t *testing.T) {
	v := sort(param(0, 0))
	told(t, signature(t), "P1001", map[string]in{
		"a universe":            is(axiom("x", 0, set(3))),
		"a product":             is(axiom("x", 0, pi("A", set(0), arrow(c("A"), c("A"))))),
		"by computing":          is(axiom("x", 0, c("Arity", number(2)))),
		"no type":               not(api.ErrSort, axiom("x", 0, c("zero"))),
		"no type, of a def":     not(api.ErrSort, def("x", 0, c("zero"), c("nothing"))),
		"no type, of a family":  not(api.ErrSort, family("D", 0, 0, c("zero"), ctor("k", c("nothing")))),
		"itself":                not(api.ErrConst, axiom("x", 0, c("x"))),
		"a family within it":    not(api.ErrConst, family("D", 0, 0, arrow(c("D"), set(0)))),
		"its eliminator":        not(api.ErrConst, family("D", 0, 0, arrow(at("D.elim", levels(0)), set(0)))),
		"its constructor":       not(api.ErrConst, family("D", 0, 0, arrow(c("k"), set(0)), ctor("k", c("D")))),
		"a level":               is(axiom("x", 1, v)),
		"eight levels":          is(axiom("x", 8, sort(param(7, 0)))),
		"a level too many":      not(api.ErrLevels, axiom("x", 0, v)),
		"a level behind":        not(api.ErrLevels, axiom("x", 1, sort(param(1, 0)))),
		"the greatest level":    is(axiom("x", 0, set(api.MaxLevel-1))),
		"a level too great":     not(api.ErrLevels, axiom("x", 0, set(api.MaxLevel))),
		"a meta":                not(api.ErrForm, axiom("x", 0, meta(0))),
		"no function":           not(api.ErrPi, axiom("x", 0, c("zero", c("zero")))),
		"no pair":               not(api.ErrSigma, axiom("x", 0, fst(c("zero")))),
		"another type":          not(api.ErrType, axiom("x", 0, c("Eq0", c("Nat"), c("zero")))),
		"behind what is in it":  is(axiom("x", 0, pi("n", c("Nat"), c("Vec", c("Nat"), c("n"))))),
		"levels of a constant":  not(api.ErrLevels, axiom("x", 0, at("Nat", levels(0)))),
		"ahead of elim.Parts":   not(api.ErrSort, family("D", 0, 3, c("zero"))),
		"of a family, its own":  is(family("D", 2, 0, sort(param(1, 3)))),
		"of a family, too many": not(api.ErrLevels, family("D", 2, 0, sort(param(2, 0)))),
	})
}

func TestP1001Value(t *testing.T) {
	n, v := c("Nat"), sort(param(0, 0))
	told(t, signature(t), "P1001", map[string]in{
		"a number":             is(def("x", 0, n, number(3))),
		"by definition":        is(def("x", 0, c("N"), number(3))),
		"by computing":         is(def("x", 0, c("Eq0", number(5), number(5)), at("refl", levels(0), n, c("plus", number(2), number(3))))),
		"not by computing":     not(api.ErrType, def("x", 0, c("Eq0", number(4), number(5)), at("refl", levels(0), n, number(5)))),
		"another type":         not(api.ErrType, def("x", 0, n, set(0))),
		"a type for a value":   is(def("x", 0, set(1), set(0))),
		"too great a universe": not(api.ErrType, def("x", 0, set(2), set(0))),
		"itself":               not(api.ErrConst, def("x", 0, n, c("x"))),
		"within itself":        not(api.ErrConst, def("x", 0, arrow(n, n), nats("n", c("x", c("n"))))),
		"the type first":       not(api.ErrSort, def("x", 0, c("zero"), c("x"))),
		"a level":              is(def("x", 1, sort(param(0, 1)), v)),
		"levels that are not":  not(api.ErrLevels, def("x", 1, sort(param(0, 1)), sort(param(1, 0)))),
		"levels of the type":   not(api.ErrLevels, def("x", 0, sort(param(0, 1)), set(0))),
		"a meta":               not(api.ErrForm, def("x", 0, n, meta(0))),
		"eta":                  is(def("x", 0, arrow(n, n), c("suc"))),
		"Hids aside":           is(def("x", 0, hidden(arrow(n, n)), c("suc"))),
	})
}

func TestP1001Parts(t *testing.T) {
	n := c("Nat")
	wrong := ctor("k", c("nothing"))
	told(t, signature(t), "P1001", map[string]in{
		"no universe behind":   not(api.ErrData, family("D", 0, 0, n, wrong)),
		"behind its Πs":        not(api.ErrData, family("D", 0, 0, arrow(n, n), wrong)),
		"too few Πs":           not(api.ErrData, family("D", 0, 2, arrow(n, set(0)), wrong)),
		"just as many":         is(family("D", 0, 1, arrow(n, set(0)))),
		"one by definition":    not(api.ErrData, family("D", 0, 0, at("U", levels(0)), wrong)),
		"one that would be":    not(api.ErrData, family("D", 0, 0, at("id", levels(2), set(1), set(0)), wrong)),
		"no Π":                 not(api.ErrData, family("D", 0, 0, sigma("x", n, n), wrong)),
		"params and indices":   is(family("D", 0, 1, pi("A", set(0), arrow(c("A"), c("A"), set(0))))),
		"a level of its own":   is(family("D", 1, 0, sort(param(0, 0)))),
		"more than one":        is(family("D", 0, 0, sort(api.Level{N: 2}))),
		"sixty params":         is(family("D", 0, api.MaxTele, numbers(api.MaxTele, set(0)))),
		"and one too few":      not(api.ErrData, family("D", 0, api.MaxTele, numbers(api.MaxTele-1, set(0)), wrong)),
		"a hundred indices":    is(family("D", 0, 0, numbers(100, set(0)))),
		"a type that is later": not(api.ErrConst, family("D", 0, 0, arrow(c("k"), set(0)), wrong)),
	})
}

// numbers is a type of functions of so many numbers.
func numbers(n int, t api.Term) api.Term {
	for range n {
		t = arrow(c("Nat"), t)
	}
	return t
}

func TestP1001Ctor(t *testing.T) {
	n, d := c("Nat"), c("D")
	over := func(t api.Term) api.Term { return pi("A", set(0), t) }
	list := func(ctors ...api.Ctor) api.Decl { return family("D", 0, 1, over(set(0)), ctors...) }
	da := c("D", c("A"))
	poly := func(t api.Term) api.Decl { return family("D", 1, 0, sort(param(0, 0)), ctor("k", t)) }
	told(t, signature(t), "P1001", map[string]in{
		"another family's":       not(api.ErrData, one(n)),
		"no family's":            not(api.ErrData, one(set(0))),
		"functions to another":   not(api.ErrData, one(arrow(d, n))),
		"no params":              not(api.ErrData, list(ctor("k", c("D", n)))),
		"other params":           not(api.ErrData, list(ctor("k", pi("A", n, c("D", n))))),
		"a param that is not":    not(api.ErrData, list(ctor("k", over(c("D", n))))),
		"hidden params":          is(list(ctor("k", hidden(over(da))))),
		"too few arguments":      not(api.ErrData, list(ctor("k", over(d)))),
		"other levels":           not(api.ErrData, poly(at("D", levels(0)))),
		"its own levels":         is(poly(at("D", []api.Level{param(0, 0)}))),
		"by a definition":        not(api.ErrData, one(at("id", levels(1), set(0), d))),
		"ahead of its type":      not(api.ErrData, one(arrow(c("nothing"), n))),
		"a constant that is not": not(api.ErrConst, one(arrow(c("nothing"), d))),
		"its own name":           not(api.ErrConst, one(arrow(c("k"), d))),
		"one ahead":              not(api.ErrConst, family("D", 0, 0, arrow(d, set(0)), ctor("z", d))),
		"of its constructors":    not(api.ErrConst, family("D", 0, 0, set(0), ctor("z", d), ctor("k", arrow(at("Eq", levels(0), d, c("z"), c("z")), d)))),
		"no type":                not(api.ErrSort, one(arrow(c("zero"), d))),
		"another type":           not(api.ErrType, list(ctor("k", over(arrow(c("Vec", c("A"), c("A")), da))))),
		"of an index":            not(api.ErrType, family("D", 0, 0, arrow(n, set(0)), ctor("k", c("D", n)))),
		"an index":               is(family("D", 0, 0, arrow(n, set(0)), ctor("k", c("D", number(3))))),
		"no function":            not(api.ErrPi, one(arrow(c("zero", c("zero")), d))),
		"levels":                 not(api.ErrLevels, one(arrow(at("Nat", levels(0)), d))),
		"its own, as they are":   not(api.ErrLevels, one(arrow(sort(param(0, 0)), d))),
		"the first one":          not(api.ErrConst, family("D", 0, 0, set(0), ctor("z", d), ctor("k", arrow(c("nothing"), d)), ctor("l", n))),
		"ahead of the second":    not(api.ErrPositive, family("D", 0, 0, set(0), ctor("k", arrow(arrow(d, d), d)), ctor("l", n))),
		"universe, and data":     not(api.ErrUniverse, family("D", 0, 0, set(0), ctor("k", arrow(set(0), d)), ctor("l", n))),
		"the second":             not(api.ErrData, family("D", 0, 0, set(0), ctor("k", arrow(d, d)), ctor("l", n))),
		"the second's argument":  not(api.ErrUniverse, family("D", 0, 0, set(0), ctor("k", arrow(d, d)), ctor("l", arrow(n, set(0), d)))),
		"forty of them":          is(family("D", 0, 0, set(0), forty()...)),
		"the last of forty":      not(api.ErrUniverse, family("D", 0, 0, set(0), append(forty()[1:], ctor("l", arrow(set(0), d)))...)),
	})
}

func forty() []api.Ctor {
	var out []api.Ctor
	for i := range api.MaxCtors {
		out = append(out, ctor("k"+strconv.Itoa(i), numbers(i, c("D"))))
	}
	return out
}

// The types of constructors are judged where the family has none: its eliminator is that of such a family.
func TestP1001WithoutCtors(t *testing.T) {
	d := c("D")
	fromNone := lam("x", d, at("D.elim", levels(1), lam("_", d, set(0)), c("x")))
	told(t, signature(t), "P1001", map[string]in{
		"no method":  not(api.ErrPositive, one(arrow(pi("x", d, app(fromNone, c("x"))), d))),
		"a method":   not(api.ErrType, one(arrow(pi("x", d, at("D.elim", levels(1), lam("_", d, set(0)), c("Nat"), c("x"))), d))),
		"no levels":  not(api.ErrLevels, one(arrow(pi("x", d, c("D.elim", lam("_", d, set(0)), c("x"))), d))),
		"in a later": not(api.ErrPositive, family("D", 0, 0, set(0), ctor("z", d), ctor("k", arrow(pi("x", d, app(fromNone, c("x"))), d)))),
	})
}

func TestP1001Positive(t *testing.T) {
	n, d, v := c("Nat"), c("D"), []api.Level{param(0, 0)}
	over := func(ty api.Term) api.Decl {
		return family("D", 0, 1, pi("A", set(0), set(0)), ctor("k", pi("A", set(0), ty)))
	}
	da := c("D", c("A"))
	by := func(idx api.Term) api.Term { return c("D", idx) }
	index := func(of, ty api.Term) api.Decl { return family("D", 0, 0, arrow(of, set(0)), ctor("k", ty)) }
	poly := func(ty api.Term) api.Decl { return family("D", 1, 0, sort(param(0, 1)), ctor("k", ty)) }
	told(t, signature(t), "P1001", map[string]in{
		"itself":                     is(one(arrow(d, d))),
		"twice":                      is(one(arrow(d, d, n, d, d))),
		"functions to it":            is(one(arrow(arrow(n, n, d), d))),
		"hidden ones":                is(one(arrow(hidden(arrow(n, hidden(arrow(n, d)))), d))),
		"ahead of an arrow":          not(api.ErrPositive, one(arrow(arrow(n, d, n, d), d))),
		"to a number":                not(api.ErrPositive, one(arrow(arrow(d, n), d))),
		"behind another":             not(api.ErrPositive, one(arrow(d, n, arrow(d, d), d))),
		"in a pair":                  not(api.ErrPositive, one(arrow(sigma("x", d, n), d))),
		"in a pair, second":          not(api.ErrPositive, one(arrow(sigma("x", n, d), d))),
		"in a list":                  not(api.ErrPositive, one(arrow(at("List", levels(0), d), d))),
		"in an axiom":                not(api.ErrPositive, one(arrow(c("F", d), d))),
		"by id":                      not(api.ErrPositive, one(arrow(at("id", levels(1), set(0), d), d))),
		"by a λ":                     not(api.ErrPositive, one(arrow(app(lam("X", set(0), c("X")), d), d))),
		"gone by a step":             not(api.ErrPositive, one(arrow(app(lam("X", set(0), n), d), d))),
		"in a function's domain":     not(api.ErrPositive, one(arrow(arrow(c("F", d), d), d))),
		"in a λ's domain":            not(api.ErrPositive, one(arrow(c("Eq0", c("zero"), app(lam("x", arrow(d, d), c("zero")), lam("x", d, c("x")))), d))),
		"its params":                 is(over(arrow(da, arrow(n, da), c("A"), da))),
		"other params":               not(api.ErrPositive, over(arrow(c("D", n), da))),
		"within its own params":      not(api.ErrPositive, over(arrow(c("D", da), da))),
		"a param that became":        not(api.ErrPositive, over(arrow(c("D", at("id", levels(1), set(0), c("A"))), da))),
		"another variable":           not(api.ErrPositive, family("D", 0, 1, pi("A", set(0), set(1)), ctor("k", pi("A", set(0), pi("X", set(0), arrow(c("D", c("X")), da)))))),
		"without its params":         not(api.ErrPositive, over(arrow(at("Eq", levels(1), arrow(set(0), set(0)), d, d), da))),
		"its levels":                 is(poly(arrow(at("D", v), at("D", v)))),
		"other levels":               not(api.ErrPositive, poly(arrow(at("D", levels(0)), at("D", v)))),
		"its indices":                is(index(n, pi("n", n, arrow(by(c("n")), by(c("suc", c("n"))))))),
		"by what was ahead":          is(index(n, arrow(pi("n", n, by(c("plus", c("n"), c("n")))), by(c("zero"))))),
		"an index with it":           not(api.ErrPositive, index(set(0), arrow(by(by(n)), by(n)))),
		"an index with it, further":  not(api.ErrPositive, index(set(0), arrow(arrow(n, by(arrow(n, by(n)))), by(n)))),
		"the result with it":         not(api.ErrPositive, index(set(0), by(by(n)))),
		"the result, behind one":     not(api.ErrPositive, index(set(0), arrow(n, by(arrow(n, by(n)))))),
		"the result, and universe":   not(api.ErrPositive, index(set(0), pi("X", set(0), by(by(c("X")))))),
		"the result without it":      is(index(set(0), arrow(by(n), by(arrow(n, n))))),
		"its type must be one first": not(api.ErrConst, one(arrow(arrow(d, d), c("nothing"), d))),
		"and ahead of universe":      not(api.ErrPositive, one(arrow(arrow(d, set(0)), d))),
		"but not of those ahead":     not(api.ErrUniverse, one(arrow(set(0), arrow(d, d), d))),
		"and of those behind":        not(api.ErrPositive, one(arrow(arrow(d, d), set(0), d))),
		"of the name alone":          is(family("D", 0, 0, set(0), ctor("D.k", arrow(d, d)))),
		"another's name":             is(one(arrow(arrow(n, n), at("List", levels(0), n), d))),
	})
}

func TestP1001Universe(t *testing.T) {
	n, v0, v1 := c("Nat"), sort(param(0, 0)), sort(param(1, 0))
	own := []api.Level{param(0, 0), param(1, 0)}
	most := sort(api.Level{Vars: []api.LVar{{Var: 0}, {Var: 1}}})
	at2 := at("D", own)
	poly := func(of, arg api.Term) api.Decl { return family("D", 2, 0, of, ctor("k", arrow(arg, at2))) }
	over := func(of api.Term, ty api.Term) api.Decl {
		return family("D", 2, 2, pi("A", v0, pi("B", v1, of)), ctor("k", pi("A", v0, pi("B", v1, ty))))
	}
	ab := at("D", own, c("A"), c("B"))
	within := func(l int, args ...api.Term) api.Decl {
		return family("D", 0, 0, set(l), ctor("k", arrow(append(args, c("D"))...)))
	}
	told(t, signature(t), "P1001", map[string]in{
		"a number":                is(within(0, n)),
		"a universe":              not(api.ErrUniverse, within(0, set(0))),
		"one above":               is(within(1, set(0))),
		"two above":               is(within(2, set(0))),
		"one too great":           not(api.ErrUniverse, within(2, set(2))),
		"Set 1 in Set 2":          is(within(2, set(1))),
		"behind others":           not(api.ErrUniverse, within(1, set(0), n, c("D"), set(1))),
		"functions of a universe": not(api.ErrUniverse, within(0, arrow(set(0), n))),
		"to one":                  not(api.ErrUniverse, within(0, arrow(n, set(0)))),
		"functions to it":         not(api.ErrUniverse, within(0, arrow(set(0), c("D")))),
		"to it, one above":        is(within(1, arrow(set(0), c("D")))),
		"a pair":                  not(api.ErrUniverse, within(0, sigma("X", set(0), c("X")))),
		"by definition":           not(api.ErrUniverse, within(0, at("U", levels(0)))),
		"by definition, above":    is(within(1, at("U", levels(0)))),
		"by computing":            is(within(0, c("Arity", number(3)))),
		"a level by computing":    not(api.ErrUniverse, within(0, at("any", levels(2), at("U", levels(1))))),
		"v0 in v0":                not(api.ErrUniverse, poly(v0, v0)),
		"v0 in v0+1":              is(poly(sort(param(0, 1)), v0)),
		"v1 in v0+1":              not(api.ErrUniverse, poly(sort(param(0, 1)), v1)),
		"Set 0 in v0":             not(api.ErrUniverse, poly(v0, set(0))),
		"Set 0 in v0+1":           is(poly(sort(param(0, 1)), set(0))),
		"params are no arguments": is(over(set(0), ab)),
		"of a param's type":       is(over(v0, arrow(c("A"), ab))),
		"of another param's":      not(api.ErrUniverse, over(v0, arrow(c("B"), ab))),
		"of both":                 is(over(most, arrow(c("A"), c("B"), ab))),
		"functions of both":       is(over(most, arrow(arrow(c("A"), c("B")), ab))),
		"functions of one more":   not(api.ErrUniverse, over(v1, arrow(arrow(c("A"), c("B")), ab))),
		"0 is at most all":        is(over(v0, arrow(n, ab))),
		"by what was ahead":       is(family("D", 0, 0, set(1), ctor("k", pi("X", set(0), arrow(c("X"), c("D")))))),
		"by what is too great":    not(api.ErrUniverse, family("D", 0, 0, set(1), ctor("k", pi("X", set(1), arrow(c("X"), c("D")))))),
		"indices are not asked":   is(family("D", 0, 0, arrow(set(4), set(0)), ctor("k", c("D", set(3))))),
	})
}

// A telescope as long as can be: each argument is looked at within all those ahead.
func TestP1001Long(t *testing.T) {
	last := func(arg api.Term) api.Decl { return one(pi("n", c("Nat"), numbers(489, arrow(arg, c("D"))))) }
	told(t, signature(t), "P1001", map[string]in{
		"of a number":   is(last(c("Vec", c("Nat"), c("n")))),
		"of a universe": not(api.ErrUniverse, last(set(0))),
		"of functions":  not(api.ErrPositive, last(arrow(c("D"), c("D")))),
	})
}

func TestP1002Add(t *testing.T) {
	s := sig.New()
	for _, d := range decls() {
		if e := data.Add(s, d, much); e != api.OK {
			t.Errorf("P1002: %s: %v", d.Name, e)
		}
	}
	if !reflect.DeepEqual(s.List(), put(decls()).List()) {
		t.Errorf("P1002: other declarations")
	}
	for i, d := range []api.Decl{axiom("x", 0, c("zero")), nat(), one(arrow(set(0), c("D")))} {
		if e := data.Add(s, d, much); e == api.OK || len(s.List()) != len(decls()) {
			t.Errorf("P1002: %d: %v", i, e)
		}
	}
	if e := data.Add(s, one(arrow(c("D"), c("D"))), much); e != api.OK {
		t.Errorf("P1002: behind what was refused: %v", e)
	}
	if ty, e := kernel.Infer(s, 0, nil, lam("x", c("D"), c("k", c("x"))), much); e != api.OK {
		t.Errorf("P1002: what was added means nothing: %s, %v", show(ty), e)
	}
}

// put is a signature of these, of whatever type.
func put(l []api.Decl) *sig.Sig {
	s := sig.New()
	for _, d := range l {
		s.Put(d)
	}
	return s
}

// A nil signature is read as an empty one; nothing can stand in it.
func TestP1002Nil(t *testing.T) {
	for i, x := range []in{is(nat()), is(axiom("x", 0, set(0))), not(api.ErrConst, vec()), not(api.ErrForm, api.Decl{}), not(api.ErrData, one(set(0)))} {
		if e := data.Check(nil, x.d, much); e != x.e {
			t.Errorf("P1001: %d: %v", i, e)
		}
		if e := data.Add(nil, x.d, much); e == api.OK || x.e != api.OK && e != x.e {
			t.Errorf("P1002: %d: %v", i, e)
		}
	}
}

func TestP1002Well(t *testing.T) {
	n := c("Nat")
	x := axiom("x", 0, n)
	many := func(n int) []api.Decl {
		var l []api.Decl
		for i := range n {
			l = append(l, axiom("a"+strconv.Itoa(i), 0, set(0)))
		}
		return l
	}
	for what, z := range map[string]struct {
		l  []api.Decl
		at int
		e  api.Errno
	}{
		"none":                   {nil, -1, api.OK},
		"one":                    {[]api.Decl{nat()}, -1, api.OK},
		"all":                    {decls(), -1, api.OK},
		"twice":                  {[]api.Decl{nat(), nat()}, 1, api.ErrTwice},
		"a name of what is not":  {[]api.Decl{vec(), nat()}, 0, api.ErrConst},
		"at the end":             {append(decls(), x, def("y", 0, n, c("x")), axiom("z", 0, c("y"))), len(decls()) + 2, api.ErrSort},
		"the first of two":       {[]api.Decl{nat(), axiom("x", 0, c("zero")), one(n)}, 1, api.ErrSort},
		"one that is none":       {[]api.Decl{nat(), {}, x}, 1, api.ErrForm},
		"a family":               {[]api.Decl{nat(), x, one(arrow(set(0), c("D")))}, 2, api.ErrUniverse},
		"behind what is refused": {[]api.Decl{nat(), one(arrow(arrow(c("D"), n), c("D"))), axiom("y", 0, c("D"))}, 1, api.ErrPositive},
		"by those ahead":         {[]api.Decl{nat(), one(arrow(n, c("D"))), def("y", 0, c("D"), c("k", number(2)))}, -1, api.OK},
		"as many as can be":      {many(api.MaxDecls), -1, api.OK},
		"one more":               {many(api.MaxDecls + 1), api.MaxDecls, api.ErrLong},
	} {
		if at, e := data.Well(z.l, much); at != z.at || e != z.e {
			t.Errorf("P1002: %s: %d, %v, not %d, %v", what, at, e, z.at, z.e)
		}
	}
}
